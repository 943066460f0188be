package fields

import "slices"

// Union returns the strings that are in a or in b, in increasing order.
func Union(a, b []string) []string {
	return ordered(slices.Concat(a, b))
}

// Intersect returns the strings that are in a and in b, in increasing order.
func Intersect(a, b []string) []string {
	in := members(b)
	return slices.DeleteFunc(ordered(a), func(one string) bool { return !in[one] })
}

// Minus returns the strings that are in a but not in b, in increasing order.
func Minus(a, b []string) []string {
	in := members(b)
	return slices.DeleteFunc(ordered(a), func(one string) bool { return in[one] })
}

// ordered returns the strings of a set in increasing order, each once.
func ordered(set []string) []string {
	l := slices.Clone(set)
	slices.Sort(l)
	return slices.Compact(l)
}

// members returns a map in which the strings of a set are true.
func members(set []string) map[string]bool {
	in := make(map[string]bool, len(set))
	for _, one := range set {
		in[one] = true
	}
	return in
}
