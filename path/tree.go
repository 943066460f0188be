package path

import (
	"slices"

	"orchestrator/api"
	"orchestrator/value"
)

// Get returns the value at p in v, and whether there is one.
func Get(v api.Value, p []api.Step) (api.Value, bool) {
	if !Valid(p) {
		return api.Value{}, false
	}
	found := find(&v, p)
	if found == nil {
		return api.Value{}, false
	}
	return duplicate(*found), true
}

// Set returns v with the value x at p.
func Set(v api.Value, p []api.Step, x api.Value) (api.Value, api.Errno) {
	if !Valid(p) || !value.Valid(v) || !value.Valid(x) {
		return api.Value{}, api.ErrInvalid
	}
	result, e := setBelow(v, p, x)
	if e != api.OK {
		return api.Value{}, e
	}
	if !value.Valid(result) {
		return api.Value{}, api.ErrTooLong
	}
	return result, api.OK
}

// Remove returns v without the field or element at p, and whether there was one.
func Remove(v api.Value, p []api.Step) (api.Value, bool) {
	if len(p) == 0 || !Valid(p) || find(&v, p) == nil {
		return api.Value{}, false
	}
	result := duplicate(v)
	last := len(p) - 1
	parent := find(&result, p[:last])
	at := placeOf(*parent, p[last])
	if p[last].Kind == api.SField {
		// value.Without would drop all fields of that name and sort the others.
		parent.Fields = slices.Delete(parent.Fields, at, at+1)
	} else {
		parent.List = slices.Delete(parent.List, at, at+1)
	}
	return result, true
}

// find returns the place of the value to which the valid path p leads from v, or nil if there is none.
func find(v *api.Value, p []api.Step) *api.Value {
	for _, s := range p {
		at := placeOf(*v, s)
		if at < 0 {
			return nil
		}
		if s.Kind == api.SField {
			v = &v.Fields[at].V
		} else {
			v = &v.List[at]
		}
	}
	return v
}

// placeOf returns at which of the fields or of the elements of v the valid step s leads on, or -1 if there is none.
func placeOf(v api.Value, s api.Step) int {
	switch {
	case s.Kind == api.SField:
		return placeOfField(v, s.Name)
	case s.Kind == api.SIndex && v.Kind == api.VList && s.Index < len(v.List):
		return s.Index
	case s.Kind == api.SKey && v.Kind == api.VList:
		return slices.IndexFunc(v.List, func(one api.Value) bool { return hasKey(one, s) })
	}
	return -1
}

func placeOfField(v api.Value, name string) int {
	if v.Kind != api.VMap {
		return -1
	}
	return slices.IndexFunc(v.Fields, func(one api.Field) bool { return one.Name == name })
}

// hasKey reports whether v is a map with the key that the step s asks for.
func hasKey(v api.Value, s api.Step) bool {
	at := placeOfField(v, s.Name)
	return at >= 0 && v.Fields[at].V.Kind == api.VString && v.Fields[at].V.S == s.Value
}

// setBelow returns v with x at p, without a look at whether the result is valid.
func setBelow(v api.Value, p []api.Step, x api.Value) (api.Value, api.Errno) {
	if len(p) == 0 {
		return duplicate(x), api.OK
	}
	if e := checkEnter(v, p[0]); e != api.OK {
		return api.Value{}, e
	}
	below := created(p[0])
	if found := find(&v, p[:1]); found != nil {
		below = *found
	}
	below, e := setBelow(below, p[1:], x)
	if e != api.OK {
		return api.Value{}, e
	}
	if p[0].Kind == api.SKey && !hasKey(below, p[0]) {
		return api.Value{}, api.ErrType
	}
	return replace(v, p[0], below), api.OK
}

// checkEnter returns why the step s can't lead into v, neither to what is there nor to something new.
func checkEnter(v api.Value, s api.Step) api.Errno {
	wanted := api.VList
	if s.Kind == api.SField {
		wanted = api.VMap
	}
	if v.Kind != wanted {
		return api.ErrType
	}
	if s.Kind == api.SIndex && s.Index > len(v.List) {
		return api.ErrRange
	}
	return api.OK
}

// created returns the map as which a field or element begins that the step s creates.
func created(s api.Step) api.Value {
	if s.Kind == api.SKey {
		return value.Map(api.Field{Name: s.Name, V: value.String(s.Value)})
	}
	return value.Map()
}

// replace returns v with x in the place of what the step s leads to, or as a further field or element if there is none.
func replace(v api.Value, s api.Step, x api.Value) api.Value {
	if s.Kind == api.SField {
		return value.With(v, s.Name, x)
	}
	elements := slices.Clone(v.List)
	if at := placeOf(v, s); at >= 0 {
		elements[at] = x
	} else {
		elements = append(elements, x)
	}
	return value.List(elements...)
}

// duplicate copies v with all that is below it: a list shares no memory with what it is made of.
func duplicate(v api.Value) api.Value {
	return value.List(v).List[0]
}
