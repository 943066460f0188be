package schema

import (
	"math"
	"slices"
	"testing"

	"orchestrator/api"
)

func name(s string) api.Step { return api.Step{Kind: api.SField, Name: s} }

func index(n int) api.Step { return api.Step{Kind: api.SIndex, Index: n} }

func key(name, value string) api.Step { return api.Step{Kind: api.SKey, Name: name, Value: value} }

// steps returns a path: a string is a field, a number an index, and a step is itself.
func steps(parts ...any) []api.Step {
	p := []api.Step{}
	for _, part := range parts {
		switch one := part.(type) {
		case string:
			p = append(p, name(one))
		case int:
			p = append(p, index(one))
		case api.Step:
			p = append(p, one)
		}
	}
	return p
}

// cells returns the places in memory that the slices of a value reach, spare ones included.
func cells(v api.Value) []any {
	all := []any{}
	spareList, spareFields := v.List[:cap(v.List)], v.Fields[:cap(v.Fields)]
	for i := range spareList {
		all = append(all, &spareList[i])
	}
	for i := range spareFields {
		all = append(all, &spareFields[i])
	}
	for _, one := range v.List {
		all = append(all, cells(one)...)
	}
	for _, one := range v.Fields {
		all = append(all, cells(one.V)...)
	}
	return all
}

// cellsOf returns the places in memory that the slices of a schema reach, spare ones included.
func cellsOf(s api.Schema) []any {
	all := []any{}
	enum, items, fields := s.Enum[:cap(s.Enum)], s.Items[:cap(s.Items)], s.Fields[:cap(s.Fields)]
	for i := range enum {
		all = append(all, &enum[i])
	}
	for i := range items {
		all = append(all, &items[i])
	}
	for i := range fields {
		all = append(all, &fields[i])
	}
	for _, one := range s.Items {
		all = append(all, cellsOf(one)...)
	}
	for _, one := range s.Fields {
		all = append(append(all, cellsOf(one.S)...), cells(api.Value{List: one.Default})...)
	}
	return all
}

// checkApart checks that the result shares no memory with the argument, and that no two of its slices share any.
func checkApart(t *testing.T, result, argument api.Schema) {
	t.Helper()
	taken := map[any]bool{}
	for _, cell := range cellsOf(argument) {
		taken[cell] = true
	}
	for _, cell := range cellsOf(result) {
		if taken[cell] {
			t.Fatalf("the result %+v shares memory with %+v or within itself", result, argument)
		}
		taken[cell] = true
	}
}

// checkAt checks the answer of At, and that it leaves its arguments.
func checkAt(t *testing.T, s api.Schema, p []api.Step, want api.Schema, found bool) {
	t.Helper()
	before, path := copiedSchema(s), slices.Clone(p)
	got, ok := At(s, p)
	if ok != found || !sameSchema(got, want) {
		t.Errorf("At(%+v, %+v) = %+v, %v; want %+v, %v", s, p, got, ok, want, found)
	}
	checkApart(t, got, s)
	if !sameSchema(s, before) || !slices.Equal(p, path) {
		t.Fatalf("At changed %+v, %+v to %+v, %+v", before, path, s, p)
	}
}

func checkNowhere(t *testing.T, s api.Schema, p []api.Step) {
	t.Helper()
	checkAt(t, s, p, api.Schema{}, false)
}

// eachStep are valid steps of each kind.
func eachStep() []api.Step {
	return []api.Step{name("a"), name("b"), name("k"), name("-_/"), name(letters(40)), index(0), index(1), index(63), index(64), key("k", ""), key("k", "x"), key("a", "x"), key("k", letters(200)), key("K", "x")}
}

func TestAtOneStep(t *testing.T) { // P7.4
	item := entry(fixed("n", whole(1, 5)))
	for _, s := range []api.Schema{flag(), whole(0, 5), word(0, 5, "a", "b"), listOf(0, 5, item), keyedList("k", item), dictionary(item), structure(), structure(plain("b", item), plain("k", word(0, 7)))} {
		checkAt(t, s, nil, s, true)
		checkAt(t, s, steps(), s, true)
		for _, step := range eachStep() {
			want, found := api.Schema{}, false
			switch {
			case s.Kind == api.VList && step.Kind == api.SIndex:
				want, found = item, true
			case s.Kind == api.VList && step.Kind == api.SKey && s.Key == "k" && step.Name == "k":
				want, found = item, true
			case s.Kind == api.VMap && len(s.Items) > 0 && step.Kind == api.SField:
				want, found = item, true
			case len(s.Fields) > 0 && step.Kind == api.SField && step.Name == "b":
				want, found = item, true
			case len(s.Fields) > 0 && step.Kind == api.SField && step.Name == "k":
				want, found = word(0, 7), true
			}
			checkAt(t, s, steps(step), want, found)
			checkAt(t, structure(plain("x", s)), steps("x", step), want, found)
			checkAt(t, dictionary(s), steps("x", step), want, found)
			checkAt(t, listOf(0, 1, s), steps(9, step), want, found)
		}
	}
}

func TestAtFields(t *testing.T) { // P7.4
	s := structure()
	for i, one := range words(64) {
		s.Fields = append(s.Fields, plain(one, whole(i, i)))
	}
	for i, one := range words(64) {
		checkAt(t, s, steps(one), whole(i, i), true)
		checkNowhere(t, s, steps(one, "a"))
		checkNowhere(t, s, steps(one+"a"))
		checkNowhere(t, s, steps(one[:3]))
	}
	// The kind and the flags of a field, and its default, do not matter.
	f := structure(api.SchemaField{Name: "a", Required: true, Immutable: true, Default: []api.Value{fields()}, S: dictionary(flag())})
	checkAt(t, f, steps("a"), dictionary(flag()), true)
	checkAt(t, f, steps("a", "any"), flag(), true)
	checkNowhere(t, f, steps("A"))
	checkNowhere(t, f, steps("a", 0))
}

func TestAtLongerPaths(t *testing.T) { // P7.4
	port := structure(required("name", word(1, 10)), withDefault("port", whole(1, 99), number(80)))
	ports := keyedList("name", port)
	container := structure(plain("env", dictionary(word(0, 200))), required("name", word(1, 10)), plain("ports", ports))
	s := structure(plain("containers", keyedList("name", container)), plain("rows", listOf(0, 9, listOf(0, 9, flag()))))
	web := key("name", "web")
	checkAt(t, s, nil, s, true)
	checkAt(t, s, steps("containers", web), container, true)
	checkAt(t, s, steps("containers", 0), container, true)
	checkAt(t, s, steps("containers", web, "ports"), ports, true)
	checkAt(t, s, steps("containers", web, "ports", key("name", "\n"), "port"), whole(1, 99), true)
	checkAt(t, s, steps("containers", 7, "ports", 64, "name"), word(1, 10), true)
	checkAt(t, s, steps("containers", web, "env", "any/name"), word(0, 200), true)
	checkAt(t, s, steps("rows", 1, 2), flag(), true)
	for _, p := range [][]api.Step{steps("container"), steps("containers", "name"), steps("containers", key("port", "web")), steps("containers", web, web), steps("containers", web, "name", "x"), steps("containers", web, "env", 0), steps("containers", web, "env", "x", "y"), steps("rows", web), steps("rows", 1, 2, 3), steps("rows", 1, "a"), steps(0), steps(web), steps("x", "containers"), steps("containers", web, "x", "name")} {
		checkNowhere(t, s, p)
	}
	for levels := 1; levels <= 12; levels++ {
		for n := range 17 {
			checkAt(t, deepList(levels), slices.Repeat(steps(0), n), deepListOrNone(levels-n), n < levels)
		}
	}
}

// deepListOrNone returns the zero schema if there are no levels.
func deepListOrNone(levels int) api.Schema {
	if levels < 1 {
		return api.Schema{}
	}
	return deepList(levels)
}

func TestAtWithInvalidArguments(t *testing.T) { // P7.4
	odd := []api.Step{
		{}, {Kind: -1, Name: "a"}, {Kind: 4, Name: "a"}, {Kind: math.MaxInt}, {Kind: api.SField, Name: "a", Index: 1}, {Kind: api.SField, Name: "a", Value: "x"}, {Kind: api.SIndex, Index: 1, Name: "a"}, {Kind: api.SIndex, Value: "x"}, {Kind: api.SKey, Name: "k", Value: "x", Index: 1},
		name(""), name("a.b"), name("é"), name(letters(41)), index(-1), index(65), index(math.MaxInt), key("", "x"), key("", ""), key("k k", "x"), key("k", "é"), key("k", letters(201)),
	}
	for _, s := range []api.Schema{flag(), listOf(0, 5, flag()), keyedList("k", entry()), dictionary(flag()), structure(plain("a", flag()))} {
		for _, step := range odd {
			checkNowhere(t, s, steps(step))
			checkNowhere(t, dictionary(s), steps("x", step))
			checkNowhere(t, dictionary(dictionary(s)), steps("x", step, "x"))
		}
		checkNowhere(t, s, slices.Repeat(steps("a"), 17))
		checkNowhere(t, s, slices.Repeat(steps(0), 5000))
	}
	for _, s := range oddSchemas() {
		checkNowhere(t, s, nil)
		for _, step := range append(eachStep(), odd...) {
			checkNowhere(t, s, steps(step))
		}
		// It need not be on the way.
		checkNowhere(t, structure(plain("a", flag()), plain("b", s)), steps("a"))
		checkNowhere(t, structure(plain("a", flag()), plain("b", s)), nil)
		checkNowhere(t, dictionary(s), steps("a"))
	}
}

func TestAtSharesNothing(t *testing.T) { // P2
	// The same slices stand in several places of the argument, and in none of those of the result.
	enum, items := word(0, 5, "a", "b"), []api.Schema{word(0, 5, "a", "b")}
	shared := []api.Value{list(text("a"), text("b"))}
	l := api.Schema{Kind: api.VList, Max: 5, Items: items}
	s := structure(
		api.SchemaField{Name: "a", S: l, Default: shared},
		api.SchemaField{Name: "b", S: l, Default: shared},
		api.SchemaField{Name: "c", S: structure(withDefault("d", l, shared...), plain("e", enum), plain("f", enum), plain("g", api.Schema{Kind: api.VMap, Items: items}))},
	)
	checkAt(t, s, nil, s, true)
	checkAt(t, s, steps("a"), l, true)
	checkAt(t, s, steps("c"), s.Fields[2].S, true)
	checkAt(t, s, steps("c", "e"), enum, true)
	checkAt(t, s, steps("c", "g", "x"), items[0], true)
	roomy := word(0, 5, append(make([]string, 0, 8), "a")...)
	checkAt(t, listOf(0, 1, roomy), steps(0), roomy, true)
	want := copiedSchema(s)
	result, _ := At(s, nil)
	result.Fields[0].Name = "spoiled"
	result.Fields[0].Default[0].List[0].S = "spoiled"
	result.Fields[0].S.Items[0].Enum[0] = "spoiled"
	result.Fields[2].S.Fields[1].S.Enum[1] = "spoiled"
	if !sameSchema(s, want) {
		t.Error("what is done to a result changes the argument")
	}
}
