package schema

import (
	"slices"

	"orchestrator/api"
	"orchestrator/path"
	"orchestrator/value"
)

// At returns the schema of the values at the path p, and whether there is one.
func At(s api.Schema, p []api.Step) (api.Schema, bool) {
	if !Valid(s) || !path.Valid(p) {
		return api.Schema{}, false
	}
	for _, step := range p {
		next, ok := follow(s, step)
		if !ok {
			return api.Schema{}, false
		}
		s = next
	}
	return duplicate(s), true
}

// follow returns the schema to which a valid step leads from the valid schema s, and whether it leads anywhere.
func follow(s api.Schema, step api.Step) (api.Schema, bool) {
	switch {
	case step.Kind == api.SField && isDictionary(s),
		step.Kind == api.SIndex && s.Kind == api.VList,
		// A valid step has a name, so that this is no list without a key.
		step.Kind == api.SKey && s.Kind == api.VList && s.Key == step.Name:
		return s.Items[0], true
	case step.Kind == api.SField:
		field, ok := fieldOf(s, step.Name)
		return field.S, ok
	}
	return api.Schema{}, false
}

// duplicate copies s with all that is below it.
func duplicate(s api.Schema) api.Schema {
	s.Enum = slices.Clone(s.Enum)
	s.Items = slices.Clone(s.Items)
	for i, one := range s.Items {
		s.Items[i] = duplicate(one)
	}
	s.Fields = slices.Clone(s.Fields)
	for i, one := range s.Fields {
		// A list shares no memory with what it is made of.
		one.Default = value.List(one.Default...).List
		one.S = duplicate(one.S)
		s.Fields[i] = one
	}
	return s
}
