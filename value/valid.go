package value

import "orchestrator/api"

// Valid reports whether v is a valid value tree.
func Valid(v api.Value) bool {
	return valuesLeft(v, api.MaxDepth, api.MaxValues) >= 0
}

// Size returns the number of values in the tree v.
func Size(v api.Value) int {
	size := 1
	for _, one := range v.List {
		size += Size(one)
	}
	for _, one := range v.Fields {
		size += Size(one.V)
	}
	return size
}

// Depth returns the number of levels of the tree v.
func Depth(v api.Value) int {
	below := 0
	for _, one := range v.List {
		below = max(below, Depth(one))
	}
	for _, one := range v.Fields {
		below = max(below, Depth(one.V))
	}
	return 1 + below
}

// valuesLeft returns how many of left values remain when those of v are taken away, or -1 if there are more of them, if v has more than depth levels, or if one of its values is not valid.
// It counts as it goes, so that it is done with a huge tree after few values.
func valuesLeft(v api.Value, depth, left int) int {
	if depth == 0 || left == 0 || !usesOwnMembers(v) || !validMembers(v) {
		return -1
	}
	left--
	for _, one := range v.List {
		if left = valuesLeft(one, depth-1, left); left < 0 {
			return -1
		}
	}
	for _, one := range v.Fields {
		if left = valuesLeft(one.V, depth-1, left); left < 0 {
			return -1
		}
	}
	return left
}

// usesOwnMembers reports whether the members that the kind of v does not use are zero or empty.
func usesOwnMembers(v api.Value) bool {
	return (v.N == 0 || v.Kind == api.VBool || v.Kind == api.VInt) &&
		(v.S == "" || v.Kind == api.VString) &&
		(len(v.List) == 0 || v.Kind == api.VList) &&
		(len(v.Fields) == 0 || v.Kind == api.VMap)
}

// validMembers reports whether the members that the kind of v uses are valid, without the values below v.
func validMembers(v api.Value) bool {
	switch v.Kind {
	case api.VNull:
		return true
	case api.VBool:
		return v.N == 0 || v.N == 1
	case api.VInt:
		return -api.MaxNumber <= v.N && v.N <= api.MaxNumber
	case api.VString:
		return validString(v.S)
	case api.VList:
		return len(v.List) <= api.MaxList
	case api.VMap:
		return len(v.Fields) <= api.MaxList && validNames(v.Fields)
	}
	return false
}

func validString(s string) bool {
	if len(s) > api.MaxString {
		return false
	}
	for i := range len(s) {
		if s[i] != '\n' && (s[i] < 32 || s[i] > 126) {
			return false
		}
	}
	return true
}

func validNames(f []api.Field) bool {
	for i, one := range f {
		if !validName(one.Name) {
			return false
		}
		if i > 0 && f[i-1].Name >= one.Name {
			return false
		}
	}
	return true
}

func validName(name string) bool {
	if len(name) < 1 || len(name) > api.MaxName {
		return false
	}
	for i := range len(name) {
		if !isNameByte(name[i]) {
			return false
		}
	}
	return true
}

func isNameByte(c byte) bool {
	return 'a' <= c && c <= 'z' || 'A' <= c && c <= 'Z' || '0' <= c && c <= '9' || c == '-' || c == '_' || c == '/'
}
