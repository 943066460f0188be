package value

import (
	"cmp"
	"slices"
	"strings"

	"orchestrator/api"
)

// Equal reports whether a and b are the same value tree.
func Equal(a, b api.Value) bool {
	return Compare(a, b) == 0
}

// Compare returns -1, 0 or 1 as a is less than, equal to or greater than b.
func Compare(a, b api.Value) int {
	if c := cmp.Compare(a.Kind, b.Kind); c != 0 {
		return c
	}
	if c := cmp.Compare(a.N, b.N); c != 0 {
		return c
	}
	if c := strings.Compare(a.S, b.S); c != 0 {
		return c
	}
	if c := slices.CompareFunc(a.List, b.List, Compare); c != 0 {
		return c
	}
	return slices.CompareFunc(a.Fields, b.Fields, compareFields)
}

func compareFields(a, b api.Field) int {
	if c := strings.Compare(a.Name, b.Name); c != 0 {
		return c
	}
	return Compare(a.V, b.V)
}
