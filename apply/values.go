package apply

import (
	"slices"
	"strings"

	"orchestrator/api"
	"orchestrator/fields"
	"orchestrator/path"
	"orchestrator/schema"
	"orchestrator/value"
)

// fits reports whether s and v are valid and v is a map that suits s, but for required fields that are missing and are not the keys of elements.
func fits(s api.Schema, v api.Value) bool {
	if v.Kind != api.VMap {
		return false
	}
	for _, one := range schema.Check(s, v) {
		if one.Code != api.ErrNotFound {
			return false
		}
	}
	return hasKeys(s, v)
}

// hasKeys reports whether each element of a keyed list in v has its key, where v suits s but for required fields that are missing.
func hasKeys(s api.Schema, v api.Value) bool {
	for _, one := range v.List {
		// The key field has no value of another kind than a string but null.
		if s.Key != "" && keyOf(s, one).Kind != api.VString || !hasKeys(s.Items[0], one) {
			return false
		}
	}
	for _, one := range v.Fields {
		if !hasKeys(schemaOf(s, one.Name), one.V) {
			return false
		}
	}
	return true
}

// keyOf returns the value of the key field of an element of a list with the keyed schema s, or null if it has none.
func keyOf(s api.Schema, element api.Value) api.Value {
	key, _ := value.Get(element, s.Key)
	return key
}

// schemaOf returns the schema of a field that a map with the schema s may have.
func schemaOf(s api.Schema, name string) api.Schema {
	if len(s.Items) > 0 {
		return s.Items[0]
	}
	at, _ := slices.BinarySearchFunc(s.Fields, name, func(one api.SchemaField, name string) int {
		return strings.Compare(one.Name, name)
	})
	return s.Fields[at].S
}

// leavesOf returns the leaves of v but for the root, which nobody can own.
func leavesOf(s api.Schema, v api.Value) []string {
	return fields.Minus(fields.Leaves(s, v), []string{""})
}

// unsatisfied returns the leaves of config that live does not satisfy.
func unsatisfied(s api.Schema, live, config api.Value) []string {
	ends := fields.Leaves(s, live)
	return slices.DeleteFunc(leavesOf(s, config), func(leaf string) bool {
		is, found := valueAt(live, leaf)
		wanted, _ := valueAt(config, leaf)
		// Live goes on behind a leaf of config only if that is an empty map or an empty keyed list, since both fit the schema.
		return found && (!contains(ends, leaf) || value.Equal(is, wanted))
	})
}

// changes returns the leaves of after that before does not have with the same value. What is no leaf of before has another value there, for there is more in it.
func changes(s api.Schema, before, after api.Value) []string {
	return slices.DeleteFunc(leavesOf(s, after), func(leaf string) bool {
		was, found := valueAt(before, leaf)
		is, _ := valueAt(after, leaf)
		return found && value.Equal(was, is)
	})
}

// valueAt returns the value of v at the path of a leaf, and whether it has one there.
func valueAt(v api.Value, leaf string) (api.Value, bool) {
	p, _ := path.Parse(leaf)
	return path.Get(v, p)
}

// contains reports whether the text is in the field set.
func contains(set []string, text string) bool {
	_, found := slices.BinarySearch(set, text)
	return found
}

// merge returns config merged over live, which both fit s. Both are pruned copies that nobody else has, and go into the result.
func merge(s api.Schema, live, config api.Value) api.Value {
	switch {
	case s.Kind == api.VMap:
		return mergeFields(s, live, config)
	case s.Key != "":
		return mergeElements(s, live, config)
	}
	return config
}

func mergeFields(s api.Schema, live, config api.Value) api.Value {
	for _, one := range config.Fields {
		at, found := slices.BinarySearchFunc(live.Fields, one.Name, func(one api.Field, name string) int {
			return strings.Compare(one.Name, name)
		})
		if found {
			live.Fields[at].V = merge(schemaOf(s, one.Name), live.Fields[at].V, one.V)
		} else {
			live.Fields = slices.Insert(live.Fields, at, one)
		}
	}
	return live
}

// mergeElements keeps the elements of live in their places, and puts those that only config has behind them.
func mergeElements(s api.Schema, live, config api.Value) api.Value {
	places := map[string]int{}
	for i, one := range live.List {
		places[keyOf(s, one).S] = i
	}
	for _, one := range config.List {
		if at, found := places[keyOf(s, one).S]; found {
			live.List[at] = merge(s.Items[0], live.List[at], one)
		} else {
			live.List = append(live.List, one)
		}
	}
	return live
}
