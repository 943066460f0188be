package schema

import (
	"slices"
	"strings"

	"orchestrator/api"
	"orchestrator/value"
)

// Changes returns an error for each immutable field that before has and that is missing or another one in after, sorted by path.
func Changes(s api.Schema, before, after api.Value) []api.FieldError {
	if !Valid(s) || !value.Valid(before) || !value.Valid(after) {
		return nil
	}
	changes := changesOf(s, before, after, nil)
	slices.SortFunc(changes, func(a, b api.FieldError) int { return strings.Compare(a.Path, b.Path) })
	return changes
}

// changesOf returns the changes between two valid values at the path at, under the valid schema s.
func changesOf(s api.Schema, before, after api.Value, at []api.Step) []api.FieldError {
	if before.Kind != s.Kind || after.Kind != s.Kind {
		return nil
	}
	switch {
	case s.Key != "":
		return changesOfElements(s, before, after, at)
	case isDictionary(s):
		return changesOfDictionary(s, before, after, at)
	case s.Kind == api.VMap:
		return changesOfStructure(s, before, after, at)
	}
	return nil
}

func changesOfElements(s api.Schema, before, after api.Value, at []api.Step) []api.FieldError {
	var changes []api.FieldError
	for i, one := range before.List {
		key, ok := keyOf(s, one)
		if !ok || indexOfKey(s, before, key) < i {
			continue
		}
		if other := indexOfKey(s, after, key); other >= 0 {
			here := below(at, stepToElement(s, i, one))
			changes = append(changes, changesOf(s.Items[0], one, after.List[other], here)...)
		}
	}
	return changes
}

func changesOfDictionary(s api.Schema, before, after api.Value, at []api.Step) []api.FieldError {
	var changes []api.FieldError
	for _, one := range before.Fields {
		other, ok := present(after, one.Name)
		if ok && one.V.Kind != api.VNull {
			changes = append(changes, changesOf(s.Items[0], one.V, other, below(at, stepToField(one.Name)))...)
		}
	}
	return changes
}

func changesOfStructure(s api.Schema, before, after api.Value, at []api.Step) []api.FieldError {
	var changes []api.FieldError
	for _, field := range s.Fields {
		old, had := present(before, field.Name)
		if !had {
			continue
		}
		here := below(at, stepToField(field.Name))
		other, has := present(after, field.Name)
		switch {
		case field.Immutable && (!has || !value.Equal(old, other)):
			changes = append(changes, errorAt(here, api.ErrImmutable))
		case !field.Immutable && has:
			changes = append(changes, changesOf(field.S, old, other, here)...)
		}
	}
	return changes
}
