package schema

import (
	"slices"

	"orchestrator/api"
	"orchestrator/path"
	"orchestrator/value"
)

// Check returns the errors of v under the schema s.
func Check(s api.Schema, v api.Value) []api.FieldError {
	if !Valid(s) || !value.Valid(v) {
		return []api.FieldError{{Code: api.ErrInvalid}}
	}
	return errorsOf(s, v, nil)
}

// errorsOf returns the errors of the valid value v at the path at, under the valid schema s.
func errorsOf(s api.Schema, v api.Value, at []api.Step) []api.FieldError {
	if v.Kind != s.Kind {
		return []api.FieldError{errorAt(at, api.ErrType)}
	}
	switch {
	case s.Kind == api.VInt && !inRange(s, v.N):
		return []api.FieldError{errorAt(at, api.ErrRange)}
	case s.Kind == api.VString:
		return errorsOfString(s, v, at)
	case s.Kind == api.VList:
		return errorsOfList(s, v, at)
	case isDictionary(s):
		return errorsOfDictionary(s, v, at)
	case s.Kind == api.VMap:
		return errorsOfStructure(s, v, at)
	}
	return nil
}

func errorsOfString(s api.Schema, v api.Value, at []api.Step) []api.FieldError {
	if !inRange(s, len(v.S)) {
		return []api.FieldError{errorAt(at, api.ErrRange)}
	}
	if len(s.Enum) > 0 && !slices.Contains(s.Enum, v.S) {
		return []api.FieldError{errorAt(at, api.ErrInvalid)}
	}
	return nil
}

func errorsOfList(s api.Schema, v api.Value, at []api.Step) []api.FieldError {
	var errors []api.FieldError
	if !inRange(s, len(v.List)) {
		errors = append(errors, errorAt(at, api.ErrRange))
	}
	for i, one := range v.List {
		here := below(at, stepToElement(s, i, one))
		errors = append(errors, errorsOf(s.Items[0], one, here)...)
		if key, ok := keyOf(s, one); ok && indexOfKey(s, v, key) < i {
			errors = append(errors, errorAt(here, api.ErrExists))
		}
	}
	return errors
}

func errorsOfDictionary(s api.Schema, v api.Value, at []api.Step) []api.FieldError {
	var errors []api.FieldError
	for _, one := range v.Fields {
		if one.V.Kind != api.VNull {
			errors = append(errors, errorsOf(s.Items[0], one.V, below(at, stepToField(one.Name)))...)
		}
	}
	return errors
}

func errorsOfStructure(s api.Schema, v api.Value, at []api.Step) []api.FieldError {
	var errors []api.FieldError
	for _, one := range v.Fields {
		here := below(at, stepToField(one.Name))
		field, known := fieldOf(s, one.Name)
		switch {
		case !known:
			errors = append(errors, errorAt(here, api.ErrInvalid))
		case one.V.Kind != api.VNull:
			errors = append(errors, errorsOf(field.S, one.V, here)...)
		}
	}
	for _, one := range s.Fields {
		if _, ok := present(v, one.Name); one.Required && !ok {
			errors = append(errors, errorAt(below(at, stepToField(one.Name)), api.ErrNotFound))
		}
	}
	return errors
}

// errorAt returns the error of what is at a path. The path is one into a valid value, which is never too long to be printed.
func errorAt(at []api.Step, code api.Errno) api.FieldError {
	text, _ := path.Print(at)
	return api.FieldError{Path: text, Code: code}
}

// below returns the path at with one step more, in memory of its own: the steps behind at are different ones for each field and element.
func below(at []api.Step, step api.Step) []api.Step {
	return append(slices.Clip(at), step)
}

func stepToField(name string) api.Step {
	return api.Step{Kind: api.SField, Name: name}
}

// stepToElement returns the step to an element of a list with the schema s, which is by its key if it has one.
func stepToElement(s api.Schema, index int, element api.Value) api.Step {
	if key, ok := keyOf(s, element); ok {
		return api.Step{Kind: api.SKey, Name: s.Key, Value: key}
	}
	return api.Step{Kind: api.SIndex, Index: index}
}

// keyOf returns the key of an element of a list with the schema s, and whether it has one.
func keyOf(s api.Schema, element api.Value) (string, bool) {
	if s.Key == "" {
		return "", false
	}
	key, ok := value.Get(element, s.Key)
	return key.S, ok && key.Kind == api.VString
}

// indexOfKey returns which element of the list v with the schema s is the first one with the key, or -1 if there is none.
func indexOfKey(s api.Schema, v api.Value, key string) int {
	return slices.IndexFunc(v.List, func(one api.Value) bool {
		other, ok := keyOf(s, one)
		return ok && other == key
	})
}

// present returns the value of a field of the map v, and whether the field is not missing.
func present(v api.Value, name string) (api.Value, bool) {
	found, ok := value.Get(v, name)
	return found, ok && found.Kind != api.VNull
}
