package fields

import (
	"fmt"
	"math"
	"reflect"
	"slices"
	"strings"
	"testing"

	"orchestrator/api"
	"orchestrator/schema"
	"orchestrator/value"
)

// The values of the tests are made by hand, so that what a test expects does not come from the functions that are used below.

func null() api.Value { return api.Value{} }

func truth(n int) api.Value { return api.Value{Kind: api.VBool, N: n} }

func number(n int) api.Value { return api.Value{Kind: api.VInt, N: n} }

func text(s string) api.Value { return api.Value{Kind: api.VString, S: s} }

func list(l ...api.Value) api.Value { return api.Value{Kind: api.VList, List: l} }

func fields(f ...api.Field) api.Value { return api.Value{Kind: api.VMap, Fields: f} }

func field(name string, v api.Value) api.Field { return api.Field{Name: name, V: v} }

// keyed is an element of a keyed list with the key field k.
func keyed(key string, f ...api.Field) api.Value {
	v := fields(append(slices.Clone(f), field("k", text(key)))...)
	slices.SortFunc(v.Fields, func(a, b api.Field) int { return strings.Compare(a.Name, b.Name) })
	return v
}

// The schemas: a boolean, integers, strings, lists, dictionaries and structures.

func flag() api.Schema { return api.Schema{Kind: api.VBool} }

func whole() api.Schema { return api.Schema{Kind: api.VInt, Max: 9} }

func word() api.Schema { return api.Schema{Kind: api.VString, Max: 9} }

func listOf(items ...api.Schema) api.Schema {
	return api.Schema{Kind: api.VList, Max: 9, Items: items}
}

// keyedList is the schema of lists whose elements have the key field k and other fields.
func keyedList(f ...api.SchemaField) api.Schema {
	item := structure(append(slices.Clone(f), api.SchemaField{Name: "k", Required: true, S: word()})...)
	slices.SortFunc(item.Fields, func(a, b api.SchemaField) int { return strings.Compare(a.Name, b.Name) })
	return api.Schema{Kind: api.VList, Max: 9, Key: "k", Items: []api.Schema{item}}
}

func dictionary(items ...api.Schema) api.Schema { return api.Schema{Kind: api.VMap, Items: items} }

func structure(f ...api.SchemaField) api.Schema { return api.Schema{Kind: api.VMap, Fields: f} }

func plain(name string, s api.Schema) api.SchemaField { return api.SchemaField{Name: name, S: s} }

// severalSchemas are valid schemas of all kinds.
func severalSchemas() []api.Schema {
	return []api.Schema{
		flag(), whole(), word(), listOf(flag()), listOf(structure(plain("a", whole()))), listOf(keyedList()), keyedList(), keyedList(plain("a", whole())), keyedList(plain("a", keyedList())),
		dictionary(whole()), dictionary(dictionary(whole())), dictionary(keyedList()), structure(), structure(plain("a", whole())), structure(plain("a", structure(plain("b", whole())))), structure(plain("a", keyedList()), plain("b", dictionary(flag()))),
		structure(api.SchemaField{Name: "a", Required: true, Immutable: true, Default: []api.Value{fields(field("x", number(1)))}, S: dictionary(whole())}),
	}
}

// severalValues are valid values of all kinds.
func severalValues() []api.Value {
	x, y := keyed("x"), keyed("y", field("a", number(1)))
	return []api.Value{
		null(), truth(0), truth(1), number(-1), number(0), number(5), number(99), text(""), text("x"), text("longer than nine"),
		list(), list(null()), list(number(1), number(1)), list(list()), list(list(null(), fields())), list(fields()), list(x), list(x, y), list(y, x), list(x, x), list(x, fields()), list(list(x, y)),
		fields(), fields(field("a", null())), fields(field("a", number(1))), fields(field("a", fields())), fields(field("a", fields(field("b", number(1))))), fields(field("a", list())), fields(field("a", list(x, y))), fields(field("a", list(x, x))),
		x, y, fields(field("a", number(1)), field("b", null()), field("c", list(x)), field("d", fields(field("a", fields()), field("e", truth(1))))), keyed("x", field("a", list(y, x))), list(keyed("x", field("a", list(y, x)))),
	}
}

func letters(n int) string { return strings.Repeat("a", n) }

// copied copies v; slices that are empty become nil.
func copied(v api.Value) api.Value {
	other := api.Value{Kind: v.Kind, N: v.N, S: v.S}
	for _, one := range v.List {
		other.List = append(other.List, copied(one))
	}
	for _, one := range v.Fields {
		other.Fields = append(other.Fields, field(one.Name, copied(one.V)))
	}
	return other
}

// same reports whether a and b agree in all members, but for the difference of nil and empty.
func same(a, b api.Value) bool { return reflect.DeepEqual(copied(a), copied(b)) }

// copiedSchema copies s; slices that are empty become nil.
func copiedSchema(s api.Schema) api.Schema {
	other := api.Schema{Kind: s.Kind, Min: s.Min, Max: s.Max, Key: s.Key}
	other.Enum = append(other.Enum, s.Enum...)
	for _, one := range s.Items {
		other.Items = append(other.Items, copiedSchema(one))
	}
	for _, one := range s.Fields {
		f := api.SchemaField{Name: one.Name, Required: one.Required, Immutable: one.Immutable, S: copiedSchema(one.S)}
		for _, v := range one.Default {
			f.Default = append(f.Default, copied(v))
		}
		other.Fields = append(other.Fields, f)
	}
	return other
}

func sameSchema(a, b api.Schema) bool { return reflect.DeepEqual(copiedSchema(a), copiedSchema(b)) }

// cells returns the places in memory that the slices of a value reach, spare ones included.
func cells(v api.Value) []any {
	all := []any{}
	spareList, spareFields := v.List[:cap(v.List)], v.Fields[:cap(v.Fields)]
	for i := range spareList {
		all = append(all, &spareList[i])
	}
	for i := range spareFields {
		all = append(all, &spareFields[i])
	}
	for _, one := range v.List {
		all = append(all, cells(one)...)
	}
	for _, one := range v.Fields {
		all = append(all, cells(one.V)...)
	}
	return all
}

// run calls Keep or Drop; it checks that the arguments stay as they were, that the result has memory of its own, each part of it, and that a second call answers the same.
func run(t *testing.T, name string, call func(s api.Schema, v api.Value, set []string) api.Value, s api.Schema, v api.Value, set []string) api.Value {
	t.Helper()
	beforeS, beforeV, beforeSet := copiedSchema(s), copied(v), slices.Clone(set)
	got := call(s, v, set)
	taken := map[any]bool{}
	for _, one := range cells(v) {
		taken[one] = true
	}
	for _, one := range cells(got) {
		if taken[one] {
			t.Fatalf("%s(%+v, %+v, %q) = %+v shares memory with an argument or within itself", name, s, v, set, got)
		}
		taken[one] = true
	}
	if again := call(s, v, set); !same(got, again) {
		t.Fatalf("%s(%+v, %+v, %q) = %+v and %+v", name, s, v, set, got, again)
	}
	if !sameSchema(s, beforeS) || !same(v, beforeV) || !slices.Equal(set, beforeSet) {
		t.Fatalf("%s changed %+v, %+v, %q to %+v, %+v, %q", name, beforeS, beforeV, beforeSet, s, v, set)
	}
	return got
}

func checkKeep(t *testing.T, s api.Schema, v api.Value, set []string, want api.Value) {
	t.Helper()
	if got := run(t, "Keep", Keep, s, v, set); !same(got, want) {
		t.Errorf("Keep(%+v, %+v, %q) = %+v; want %+v", s, v, set, got, want)
	}
}

func checkDrop(t *testing.T, s api.Schema, v api.Value, set []string, want api.Value) {
	t.Helper()
	if got := run(t, "Drop", Drop, s, v, set); !same(got, want) {
		t.Errorf("Drop(%+v, %+v, %q) = %+v; want %+v", s, v, set, got, want)
	}
}

// checkParts checks what is left of v with the set, and what is left without it.
func checkParts(t *testing.T, s api.Schema, v api.Value, set []string, with, without api.Value) {
	t.Helper()
	checkKeep(t, s, v, set, with)
	checkDrop(t, s, v, set, without)
}

func checkLeaves(t *testing.T, s api.Schema, v api.Value, want ...string) {
	t.Helper()
	beforeS, beforeV := copiedSchema(s), copied(v)
	got := Leaves(s, v)
	if !sameSet(got, want) {
		t.Errorf("Leaves(%+v, %+v) = %q; want %q", s, v, got, want)
	}
	for i := range got {
		got[i] = "changed"
	}
	if again := Leaves(s, v); !sameSet(again, want) {
		t.Errorf("Leaves(%+v, %+v) = %q at the second time; want %q", s, v, again, want)
	}
	if !sameSchema(s, beforeS) || !same(v, beforeV) {
		t.Fatalf("Leaves changed %+v, %+v to %+v, %+v", beforeS, beforeV, s, v)
	}
}

// nothing returns the part of v that has no leaf.
func nothing(v api.Value) api.Value {
	if v.Kind == api.VMap || v.Kind == api.VList {
		return api.Value{Kind: v.Kind}
	}
	return null()
}

// checkLeaf checks that v is a leaf under s: at the root, and as a field of a structure, a field of a dictionary and a field of an element.
func checkLeaf(t *testing.T, s api.Schema, v api.Value) {
	t.Helper()
	checkLeaves(t, s, v, "")
	checkParts(t, s, v, set(""), v, nothing(v))
	checkParts(t, s, v, nil, nothing(v), v)
	checkParts(t, s, v, set("a", "b", "a.k", `[k="x"].k`, "[0]"), nothing(v), v)
	in := fields(field("a", v), field("z", null()))
	checkLeaves(t, structure(plain("a", s), plain("z", flag())), in, "a", "z")
	checkParts(t, structure(plain("a", s), plain("z", flag())), in, set("a"), fields(in.Fields[0]), fields(in.Fields[1]))
	checkLeaves(t, dictionary(s), in, "a", "z")
	checkParts(t, dictionary(s), in, set("z"), fields(in.Fields[1]), fields(in.Fields[0]))
	element := list(keyed("x", field("a", v)))
	checkLeaves(t, keyedList(plain("a", s)), element, `[k="x"].a`, `[k="x"].k`)
	checkParts(t, keyedList(plain("a", s)), element, set(`[k="x"].a`), element, list(keyed("x")))
}

func TestExamples(t *testing.T) { // P10.1, P10.3
	s := structure(plain("a", whole()), plain("b", structure(plain("c", flag()), plain("d", structure()))))
	v := fields(field("a", number(1)), field("b", fields(field("c", truth(1)), field("d", fields()))))
	checkLeaves(t, s, v, "a", "b.c", "b.d")
	checkParts(t, s, v, set("b.c"), fields(field("b", fields(field("c", truth(1))))), fields(field("a", number(1)), field("b", fields(field("d", fields())))))
	port := structure(api.SchemaField{Name: "name", Required: true, S: word()}, plain("port", api.Schema{Kind: api.VInt, Max: 99}))
	s = structure(plain("ports", api.Schema{Kind: api.VList, Max: 9, Key: "name", Items: []api.Schema{port}}))
	v = fields(field("ports", list(fields(field("name", text("web")), field("port", number(80))))))
	checkLeaves(t, s, v, `ports[name="web"].name`, `ports[name="web"].port`)
	checkKeep(t, s, v, set(`ports[name="web"].port`), v)
	checkParts(t, s, v, set(`ports[name="web"].name`), fields(field("ports", list(fields(field("name", text("web")))))), v)
}

func TestValuesThatAreLeaves(t *testing.T) { // P10.1, P10.3
	for _, s := range severalSchemas() {
		for _, v := range []api.Value{null(), truth(1), number(5), number(99), text(""), text("longer than nine"), list(), fields()} {
			checkLeaf(t, s, v)
		}
		for _, v := range severalValues() {
			if v.Kind != s.Kind || v.Kind == api.VList && s.Key == "" {
				checkLeaf(t, s, v)
			}
		}
	}
}

func TestStructures(t *testing.T) { // P10.1, P10.3
	s := structure(plain("a", whole()), plain("b", structure(plain("c", flag()), plain("d", structure(plain("e", word()))))), plain("f", whole()))
	e := fields(field("e", text("x")))
	v := fields(field("a", number(1)), field("b", fields(field("c", truth(1)), field("d", e))), field("f", number(2)))
	checkLeaves(t, s, v, "a", "b.c", "b.d.e", "f")
	checkParts(t, s, v, set("a"), fields(v.Fields[0]), fields(v.Fields[1], v.Fields[2]))
	checkParts(t, s, v, set("b.c"), fields(field("b", fields(field("c", truth(1))))), fields(v.Fields[0], field("b", fields(field("d", e))), v.Fields[2]))
	checkParts(t, s, v, set("b.d.e"), fields(field("b", fields(field("d", e)))), fields(v.Fields[0], field("b", fields(field("c", truth(1)))), v.Fields[2]))
	checkParts(t, s, v, set("b.c", "b.d.e"), fields(v.Fields[1]), fields(v.Fields[0], v.Fields[2]))
	checkParts(t, s, v, set("f", "a"), fields(v.Fields[0], v.Fields[2]), fields(v.Fields[1]))
	// Fields of the schema that the value lacks don't matter, and neither does what the schema says of them otherwise.
	checkLeaves(t, s, fields(field("b", fields(field("d", e)))), "b.d.e")
	checkLeaves(t, s, fields(field("f", number(99))), "f")
	given := structure(api.SchemaField{Name: "a", Default: []api.Value{number(1)}, S: whole()}, api.SchemaField{Name: "b", Required: true, Immutable: true, S: s})
	checkLeaves(t, given, fields(), "")
	checkLeaves(t, given, fields(field("b", v)), "b.a", "b.b.c", "b.b.d.e", "b.f")
	checkParts(t, given, fields(field("b", v)), set("b.a"), fields(field("b", fields(v.Fields[0]))), fields(field("b", fields(v.Fields[1], v.Fields[2]))))
}

func TestNullsAndEmptyFields(t *testing.T) { // P10.1, P10.3
	s := structure(plain("a", structure(plain("a", flag()), plain("b", flag()))), plain("b", keyedList()), plain("c", dictionary(flag())), plain("d", listOf(flag())))
	nulls := fields(field("a", null()), field("b", null()), field("c", null()), field("d", null()))
	empty := fields(field("a", fields()), field("b", list()), field("c", fields()), field("d", list()))
	for _, v := range []api.Value{nulls, empty} {
		checkLeaves(t, s, v, "a", "b", "c", "d")
		checkParts(t, s, v, set("a"), fields(v.Fields[0]), fields(v.Fields[1:]...))
		checkParts(t, s, v, set("b", "d"), fields(v.Fields[1], v.Fields[3]), fields(v.Fields[0], v.Fields[2]))
		checkParts(t, s, v, set("d", "c", "b", "a"), v, fields())
		in := fields(field("a", v))
		checkLeaves(t, dictionary(s), in, "a.a", "a.b", "a.c", "a.d")
		checkParts(t, dictionary(s), in, set("a.c"), fields(field("a", fields(v.Fields[2]))), fields(field("a", fields(v.Fields[0], v.Fields[1], v.Fields[3]))))
	}
	// What is empty because its leaves are not chosen goes; what was empty stays if it is chosen.
	v := fields(field("a", fields(field("a", null()), field("b", fields()))), field("c", fields(field("x", fields()))))
	checkLeaves(t, s, v, "a.a", "a.b", "c.x")
	checkParts(t, s, v, set("a.a"), fields(field("a", fields(field("a", null())))), fields(field("a", fields(field("b", fields()))), v.Fields[1]))
	checkParts(t, s, v, set("c.x"), fields(v.Fields[1]), fields(v.Fields[0]))
	checkParts(t, s, v, set("a.a", "a.b"), fields(v.Fields[0]), fields(v.Fields[1]))
}

func TestUnknownFields(t *testing.T) { // P10.1, P10.3
	inside := fields(field("a", number(1)), field("l", list(keyed("x"))))
	for _, known := range []api.Schema{structure(), structure(plain("a", structure(plain("a", flag())))), structure(plain("a", dictionary(flag())), plain("z", dictionary(flag())))} {
		v := fields(field("b", inside), field("c", list(keyed("x"))), field("d", number(1)), field("e", fields()))
		checkLeaves(t, known, v, "b", "c", "d", "e")
		checkParts(t, known, v, set("b"), fields(v.Fields[0]), fields(v.Fields[1:]...))
		checkParts(t, known, v, set("c", "b.a", "d.a", "b.l", `c[k="x"].k`), fields(v.Fields[1]), fields(v.Fields[0], v.Fields[2], v.Fields[3]))
		checkParts(t, structure(plain("s", known)), fields(field("s", v)), set("s.b", "s.e"), fields(field("s", fields(v.Fields[0], v.Fields[3]))), fields(field("s", fields(v.Fields[1], v.Fields[2]))))
	}
	// Among fields that the schema has, before them, between them and behind them.
	s := structure(plain("b", structure(plain("a", whole()))), plain("d", structure(plain("a", whole()))))
	one := fields(field("a", number(1)))
	v := fields(field("a", one), field("b", one), field("c", one), field("d", one), field("dd", one))
	checkLeaves(t, s, v, "a", "b.a", "c", "d.a", "dd")
	checkParts(t, s, v, set("a", "d.a", "dd"), fields(v.Fields[0], v.Fields[3], v.Fields[4]), fields(v.Fields[1], v.Fields[2]))
	// In the elements of keyed lists too.
	element := keyed("x", field("b", one), field("z", one))
	checkLeaves(t, keyedList(plain("b", s)), list(element), `[k="x"].b.a`, `[k="x"].k`, `[k="x"].z`)
	checkParts(t, keyedList(plain("b", s)), list(element), set(`[k="x"].z`), list(keyed("x", field("z", one))), list(keyed("x", field("b", one))))
}

func TestDictionaries(t *testing.T) { // P10.1, P10.3
	s := dictionary(structure(plain("a", whole()), plain("b", dictionary(flag()))))
	v := fields(field("x", fields(field("a", number(1)), field("b", fields(field("any/name", truth(1)), field("b", null()))))), field("y", null()), field("z", fields(field("b", fields()))))
	checkLeaves(t, s, v, "x.a", "x.b.any/name", "x.b.b", "y", "z.b")
	checkParts(t, s, v, set("x.b.b", "z.b"), fields(field("x", fields(field("b", fields(field("b", null()))))), v.Fields[2]), fields(field("x", fields(field("a", number(1)), field("b", fields(field("any/name", truth(1)))))), v.Fields[1]))
	checkParts(t, s, v, set("x.a", "x.b.any/name", "x.b.b"), fields(v.Fields[0]), fields(v.Fields[1], v.Fields[2]))
	checkLeaves(t, dictionary(dictionary(dictionary(whole()))), v, "x.a", "x.b.any/name", "x.b.b", "y", "z.b")
	checkLeaves(t, dictionary(dictionary(whole())), v, "x.a", "x.b", "y", "z.b")
	checkLeaves(t, dictionary(whole()), v, "x", "y", "z")
	checkLeaves(t, dictionary(keyedList()), fields(field("a", list(keyed("x"))), field("b", list(null()))), `a[k="x"].k`, "b")
}

func TestKeyedLists(t *testing.T) { // P10.1, P10.3
	s := keyedList(plain("a", whole()), plain("m", structure(plain("n", whole()))))
	x := keyed("x", field("a", number(1)), field("m", fields(field("n", number(2)))))
	y := keyed("y", field("a", number(3)))
	z := keyed("z")
	v := list(z, x, y)
	checkLeaves(t, s, v, `[k="x"].a`, `[k="x"].k`, `[k="x"].m.n`, `[k="y"].a`, `[k="y"].k`, `[k="z"].k`)
	checkParts(t, s, v, set(`[k="x"].a`), list(keyed("x", x.Fields[0])), list(z, keyed("x", x.Fields[2]), y))
	checkParts(t, s, v, set(`[k="x"].m.n`), list(keyed("x", x.Fields[2])), list(z, keyed("x", x.Fields[0]), y))
	checkParts(t, s, v, set(`[k="x"].k`), list(keyed("x")), v)
	checkParts(t, s, v, set(`[k="z"].k`), list(z), list(x, y))
	checkParts(t, s, v, set(`[k="y"].a`), list(y), list(z, x, keyed("y")))
	checkParts(t, s, v, set(`[k="y"].a`, `[k="y"].k`), list(y), list(z, x))
	checkParts(t, s, v, set(`[k="y"].k`, `[k="z"].k`, `[k="x"].a`), list(z, keyed("x", x.Fields[0]), keyed("y")), list(keyed("x", x.Fields[2]), y))
	checkParts(t, s, v, set(`[k="x"].a`, `[k="x"].m.n`, `[k="y"].a`), list(x, y), list(z, keyed("x"), keyed("y")))
	checkParts(t, structure(plain("l", s)), fields(field("l", v)), set(`l[k="z"].k`), fields(field("l", list(z))), fields(field("l", list(x, y))))
	checkParts(t, structure(plain("l", s)), fields(field("l", list(x))), set(`l[k="x"].a`, `l[k="x"].k`, `l[k="x"].m.n`), fields(field("l", list(x))), fields())
	// Keys may be any strings; their order among the elements stays.
	odd := list(keyed("longer than nine"), keyed("\n\"\\"), keyed(""), keyed("a.b[0]"))
	checkLeaves(t, s, odd, `[k=""].k`, `[k="\n\"\\"].k`, `[k="a.b[0]"].k`, `[k="longer than nine"].k`)
	checkParts(t, s, odd, set(`[k=""].k`, `[k="\n\"\\"].k`), list(odd.List[1], odd.List[2]), list(odd.List[0], odd.List[3]))
}

func TestListsInKeyedLists(t *testing.T) { // P10.3
	s := structure(plain("l", keyedList(plain("a", keyedList(plain("n", whole()))), plain("m", dictionary(keyedList())))))
	x := keyed("x", field("n", number(1)))
	v := fields(field("l", list(keyed("c", field("a", list(x, keyed("y", field("n", number(2)))))), keyed("b", field("a", list(keyed("x"))), field("m", fields(field("d", list(keyed("e"), keyed("f")))))))))
	checkLeaves(t, s, v, `l[k="b"].a[k="x"].k`, `l[k="b"].k`, `l[k="b"].m.d[k="e"].k`, `l[k="b"].m.d[k="f"].k`, `l[k="c"].a[k="x"].k`, `l[k="c"].a[k="x"].n`, `l[k="c"].a[k="y"].k`, `l[k="c"].a[k="y"].n`, `l[k="c"].k`)
	// The key fields of all the elements on the way stay.
	checkKeep(t, s, v, set(`l[k="c"].a[k="x"].n`), fields(field("l", list(keyed("c", field("a", list(x)))))))
	checkKeep(t, s, v, set(`l[k="c"].k`), fields(field("l", list(keyed("c")))))
	checkKeep(t, s, v, set(`l[k="b"].m.d[k="f"].k`), fields(field("l", list(keyed("b", field("m", fields(field("d", list(keyed("f"))))))))))
	checkDrop(t, s, v, set(`l[k="b"].a[k="x"].k`, `l[k="b"].k`, `l[k="b"].m.d[k="e"].k`, `l[k="b"].m.d[k="f"].k`, `l[k="c"].k`), fields(field("l", list(v.Fields[0].V.List[0]))))
	checkDrop(t, s, v, set(`l[k="c"].a[k="x"].k`, `l[k="c"].a[k="x"].n`, `l[k="c"].a[k="y"].k`, `l[k="c"].k`), fields(field("l", list(keyed("c", field("a", list(keyed("y", field("n", number(2)))))), v.Fields[0].V.List[1]))))
}

func TestElementsWithoutAKey(t *testing.T) { // P10.1, P10.3
	s := keyedList(plain("a", whole()))
	x, y := keyed("x", field("a", number(1))), keyed("y")
	for _, odd := range []api.Value{
		null(), truth(1), number(1), text("x"), text("k"), list(), list(x), list(text("k"), text("z")), fields(), fields(field("a", number(1))), fields(field("K", text("z"))), fields(field("kk", text("z"))),
		fields(field("k", null())), fields(field("k", truth(1))), fields(field("k", number(0))), fields(field("k", list())), fields(field("k", list(text("z")))), fields(field("k", fields(field("k", text("z"))))),
		x, keyed("x"), keyed("x", field("a", number(2))), keyed("y"),
	} {
		// One such element, wherever it stands, makes a leaf of the whole list.
		for _, v := range []api.Value{list(x, y, odd), list(x, odd, y), list(odd, x, y), list(odd, odd)} {
			checkLeaf(t, s, v)
		}
		if key, ok := value.Get(odd, "k"); !ok || key.Kind != api.VString {
			checkLeaf(t, s, list(odd))
		}
	}
	// Lists in keyed lists have their own keys.
	inner := keyedList(plain("a", s))
	v := list(keyed("x", field("a", list(x, y))), keyed("y", field("a", list(x, x))))
	checkLeaves(t, inner, v, `[k="x"].a[k="x"].a`, `[k="x"].a[k="x"].k`, `[k="x"].a[k="y"].k`, `[k="x"].k`, `[k="y"].a`, `[k="y"].k`)
	checkParts(t, inner, v, set(`[k="x"].a[k="y"].k`, `[k="y"].a`), list(keyed("x", field("a", list(y))), v.List[1]), list(keyed("x", field("a", list(x))), keyed("y")))
}

func TestListsWithoutAKey(t *testing.T) { // P10.1, P10.3
	x := keyed("x", field("a", number(1)))
	for _, items := range []api.Schema{flag(), keyedList().Items[0], dictionary(flag()), keyedList(), listOf(keyedList())} {
		for _, v := range []api.Value{list(), list(null()), list(fields()), list(x), list(x, keyed("y")), list(x, x), list(list(x), list()), list(list(list(x)))} {
			checkLeaf(t, listOf(items), v)
		}
	}
}

func TestTextsInByteOrder(t *testing.T) { // P10.1
	// The order of the fields is another one than that of the texts of what is below them: a dot and a slash are less than a letter, a bracket is greater than a capital letter.
	names := []string{"a", "a-", "a/", "a0", "aA", "a_", "aa", "b"}
	v := fields()
	for _, one := range names {
		v.Fields = append(v.Fields, field(one, fields(field("n", number(1)))))
	}
	checkLeaves(t, dictionary(dictionary(whole())), v, "a-.n", "a.n", "a/.n", "a0.n", "aA.n", "a_.n", "aa.n", "b.n")
	checkLeaves(t, dictionary(whole()), v, names...)
	v = fields(field("a", list(keyed("b"), keyed("10"), keyed(""), keyed("\\"), keyed("\""), keyed("\n"), keyed("9"), keyed("Z"), keyed("!"), keyed("#"))), field("aA", null()), field("a_", null()), field("aa", null()))
	checkLeaves(t, dictionary(keyedList()), v, "aA", `a[k="!"].k`, `a[k=""].k`, `a[k="#"].k`, `a[k="10"].k`, `a[k="9"].k`, `a[k="Z"].k`, `a[k="\""].k`, `a[k="\\"].k`, `a[k="\n"].k`, `a[k="b"].k`, "a_", "aa")
}

func TestSetsOfPaths(t *testing.T) { // P10.3
	s := structure(plain("a", structure(plain("b", whole()), plain("c", listOf(whole())))), plain("l", keyedList(plain("n", whole()))))
	v := fields(field("a", fields(field("b", number(1)), field("c", list(number(1), number(2))))), field("l", list(keyed("x", field("n", number(3))), keyed("y"))))
	// Texts that are no leaf's path: those of composite values, those below leaves, other ways to the same place, and no paths.
	others := set("", "a", "l", `l[k="x"]`, `l[k="y"]`, "a.c[0]", "a.c[1]", "a.b.x", `l[k="x"].k.k`, `l[k="y"].n`, "l[0]", "l[0].n", `l[n="3"].n`, `l[k="x"].N`, "a.B", "b", "a.", ".a.b", "a..b", " a.b", "a.b ", "a.b\n", "A.b", `l[k='x'].n`, `l[k=x].n`, "é", "\xff", strings.Repeat("a.", 30000))
	checkParts(t, s, v, others, fields(), v)
	for _, one := range others {
		checkParts(t, s, v, set(one), fields(), v)
	}
	with := fields(field("a", fields(v.Fields[0].V.Fields[0])), field("l", list(keyed("x", field("n", number(3))))))
	without := fields(field("a", fields(v.Fields[0].V.Fields[1])), field("l", list(keyed("x"), keyed("y"))))
	for _, chosen := range [][]string{set("a.b", `l[k="x"].n`), set(`l[k="x"].n`, "a.b"), set("a.b", `l[k="x"].n`, "a.b", "a.b", `l[k="x"].n`), append(set(`l[k="x"].n`, "a.b"), others...), append(slices.Clone(others), "a.b", `l[k="x"].n`)} {
		checkParts(t, s, v, chosen, with, without)
	}
}

func TestAllAndNothing(t *testing.T) { // P10.3, P10.5
	for _, s := range severalSchemas() {
		for _, v := range severalValues() {
			all := Leaves(s, v)
			checkParts(t, s, v, all, v, nothing(v))
			checkParts(t, s, v, nil, nothing(v), v)
			checkParts(t, s, v, set(), nothing(v), v)
			slices.Reverse(all)
			checkParts(t, s, v, append(all, all...), v, nothing(v))
			checkParts(t, s, v, set("no path of the value"), nothing(v), v)
			// Below the root, an empty part is none.
			in, above := fields(field("a", v)), structure(plain("a", s))
			checkParts(t, above, in, Leaves(above, in), in, fields())
			checkParts(t, above, in, nil, fields(), in)
		}
	}
}

// nested returns maps in one another, with the given number of levels.
func nested(levels int) api.Value {
	v := null()
	for range levels - 1 {
		v = fields(field("a", v))
	}
	return v
}

// many returns a list of n nulls.
func many(n int) api.Value { return list(make([]api.Value, n)...) }

// oddValues are values that are not valid, each for one reason.
func oddValues() []api.Value {
	crowd := list(append(slices.Repeat([]api.Value{many(64)}, 9), many(14))...)
	return []api.Value{
		{Kind: -1}, {Kind: 6}, {Kind: math.MaxInt}, {N: 1}, {S: "a"}, {List: []api.Value{{}}}, {Fields: []api.Field{field("a", null())}},
		truth(2), truth(-1), number(api.MaxNumber + 1), number(math.MinInt), text("\x00"), text("é"), text(letters(201)), {Kind: api.VString, S: "x", N: 1},
		many(65), {Kind: api.VList, N: 1}, {Kind: api.VMap, S: "a"}, fields(field("", number(1))), fields(field("a b", number(1))), fields(field(letters(41), number(1))),
		fields(field("b", number(1)), field("a", number(1))), fields(field("a", number(1)), field("a", number(1))), nested(13), crowd,
		list(keyed("é")), list(keyed("x"), keyed(letters(201))), list(fields(field("k", api.Value{Kind: api.VString, S: "x", N: 1}))),
	}
}

// oddSchemas are schemas that are not valid, each for one reason.
func oddSchemas() []api.Schema {
	lacking, deep := keyedList(), flag()
	lacking.Items[0].Fields[0].Required = false
	for range 12 {
		deep = dictionary(deep)
	}
	return []api.Schema{
		{}, {Kind: -1}, {Kind: 6}, {Kind: math.MaxInt}, {Kind: math.MinInt}, {Max: 5}, {Items: []api.Schema{flag()}},
		{Kind: api.VBool, Max: 1}, {Kind: api.VInt, Min: 2, Max: 1}, {Kind: api.VString, Max: 201}, {Kind: api.VString, Max: 9, Enum: set("b", "a")}, {Kind: api.VMap, Max: 1}, {Kind: api.VMap, Key: "a"},
		listOf(), listOf(flag(), flag()), lacking, {Kind: api.VList, Max: 9, Key: "k", Items: []api.Schema{flag()}}, {Kind: api.VList, Max: 9, Key: "k", Items: []api.Schema{dictionary(word())}}, {Kind: api.VList, Max: 9, Key: "a", Items: keyedList().Items},
		dictionary(flag(), flag()), {Kind: api.VMap, Items: []api.Schema{flag()}, Fields: []api.SchemaField{plain("a", flag())}}, structure(plain("b", flag()), plain("a", flag())), structure(plain("a", flag()), plain("a", flag())), structure(plain("", flag())),
		structure(api.SchemaField{Name: "a", S: flag(), Default: []api.Value{number(1)}}), structure(api.SchemaField{Name: "a", S: flag(), Default: []api.Value{truth(1), truth(1)}}), deep,
	}
}

// checkRefused checks the answers for a schema and a value that are not both valid.
func checkRefused(t *testing.T, s api.Schema, v api.Value) {
	t.Helper()
	checkLeaves(t, s, v)
	for _, chosen := range [][]string{nil, set(""), set("a", "b", "k", `[k="x"].k`)} {
		checkParts(t, s, v, chosen, v, v)
	}
}

func TestInvalidArguments(t *testing.T) { // P10.1, P10.3, P10.5
	for _, s := range oddSchemas() {
		if schema.Valid(s) {
			t.Fatalf("%+v is valid", s)
		}
		for _, v := range append(severalValues(), oddValues()...) {
			checkRefused(t, s, v)
		}
		// It need not be a schema that the value reaches.
		for _, v := range []api.Value{null(), number(1), fields(), list(), fields(field("a", number(1)))} {
			checkRefused(t, structure(plain("a", whole()), plain("z", s)), v)
			checkRefused(t, listOf(s), v)
			checkRefused(t, dictionary(s), v)
			checkRefused(t, keyedList(plain("z", s)), v)
		}
	}
	for _, v := range oddValues() {
		if value.Valid(v) {
			t.Fatalf("%+v is valid", v)
		}
		for _, s := range severalSchemas() {
			checkRefused(t, s, v)
			checkRefused(t, s, list(v))
			checkRefused(t, s, fields(field("a", number(1)), field("z", v)))
			checkRefused(t, s, fields(field("a", fields(field("b", v)))))
			checkRefused(t, s, list(keyed("x", field("a", v)), keyed("y")))
		}
	}
}

func TestAtTheLimits(t *testing.T) { // P10.1, P10.3
	// Twelve levels, the deepest that are valid.
	s, v := whole(), number(1)
	for range 11 {
		s, v = dictionary(s), fields(field("a", v))
	}
	path := strings.Repeat(".a", 11)[1:]
	checkLeaves(t, s, v, path)
	checkParts(t, s, v, set(path), v, fields())
	checkRefused(t, dictionary(s), fields(field("a", v)))
	checkRefused(t, s, fields(field("a", v)))
	// Lists in elements, of which each takes two levels, with the longest keys and names.
	key, name := strings.Repeat("\"", 200), letters(40)
	at := `[` + name + `="` + strings.Repeat(`\"`, 200) + `"]`
	s, v, path = word(), text(key), name
	for i := range 5 {
		item := structure(api.SchemaField{Name: name, Required: true, S: api.Schema{Kind: api.VString, Max: 200}})
		element := fields(field(name, text(key)))
		if i > 0 {
			item.Fields, element.Fields, path = append(item.Fields, plain("b", s)), append(element.Fields, field("b", v)), "b"+path
		}
		s, v, path = api.Schema{Kind: api.VList, Max: 64, Key: name, Items: []api.Schema{item}}, list(element), at+"."+path
	}
	if !schema.Valid(s) || !value.Valid(v) || len(path) < 2000 {
		t.Fatal("the lists are not what they should be")
	}
	checkKeep(t, s, v, set(path), v)
	all := Leaves(s, v)
	if len(all) != 5 || !slices.Contains(all, path) {
		t.Errorf("the leaves of the lists in one another are %q", all)
	}
	// As many fields, elements and values as there may be.
	wide, most := fields(), list()
	want, keys := set(), set()
	for i := range api.MaxList {
		name := fmt.Sprint("n", 10+i)
		wide.Fields = append(wide.Fields, field(name, fields(field("a", many(1)), field("b", number(1)), field("c", null()), field("d", fields()), field("e", list()), field("f", text("")), field("g", truth(0)))))
		most.List = append(most.List, keyed(name))
		keys = append(keys, `[k="`+name+`"].k`)
		for _, one := range "abcdefg" {
			want = append(want, name+"."+string(one))
		}
	}
	wide.Fields[0].V.Fields[0].V = many(api.MaxValues - value.Size(wide) + 1)
	if value.Size(wide) != api.MaxValues || !value.Valid(wide) {
		t.Fatal("the map is not what it should be")
	}
	checkLeaves(t, dictionary(dictionary(whole())), wide, want...)
	checkParts(t, dictionary(dictionary(whole())), wide, want[:7], fields(wide.Fields[0]), fields(wide.Fields[1:]...))
	checkLeaves(t, keyedList(), most, keys...)
	checkParts(t, keyedList(), most, keys[1:], list(most.List[1:]...), list(most.List[0]))
}

func TestSharedArguments(t *testing.T) { // P2
	// A value may share memory within itself; each part of a result has its own.
	l := list(keyed("x", field("a", number(1))), keyed("y"))
	v := fields(field("a", l), field("b", l), field("c", list(l, l)), field("d", fields(field("a", l))))
	s := structure(plain("a", keyedList()), plain("b", keyedList(plain("a", whole()))), plain("c", listOf(keyedList())))
	checkLeaves(t, s, v, `a[k="x"].a`, `a[k="x"].k`, `a[k="y"].k`, `b[k="x"].a`, `b[k="x"].k`, `b[k="y"].k`, "c", "d")
	checkParts(t, s, v, Leaves(s, v), v, fields())
	checkParts(t, s, v, set("c", `a[k="x"].a`), fields(field("a", list(l.List[0])), v.Fields[2]), fields(field("a", list(keyed("x"), l.List[1])), v.Fields[1], v.Fields[3]))
	checkParts(t, flag(), v, set(""), v, fields())
	checkParts(t, api.Schema{}, v, nil, v, v)
	// Arguments with room behind their elements, into which nothing is written.
	for _, s := range severalSchemas() {
		for _, v := range severalValues() {
			v.List = append(make([]api.Value, 0, 9), v.List...)
			v.Fields = append(make([]api.Field, 0, 9), v.Fields...)
			before := copied(api.Value{List: v.List[:9], Fields: v.Fields[:9]})
			all := append(make([]string, 0, 90), Leaves(s, v)...)
			for n := range len(all) + 1 {
				run(t, "Keep", Keep, s, v, all[:n])
				run(t, "Drop", Drop, s, v, all[:n])
			}
			if !same(api.Value{List: v.List[:9], Fields: v.Fields[:9]}, before) || slices.Max(append(all[len(all):90], "")) != "" {
				t.Errorf("something was written behind the end of %+v", v)
			}
		}
	}
}

func TestDeepArguments(t *testing.T) { // P1, P10.1, P10.3
	const levels = 1<<16 - 2
	maps, lists := nested(levels), null()
	dictionaries, listSchemas, structures := flag(), flag(), flag()
	for range levels {
		lists = list(lists)
		dictionaries, listSchemas, structures = dictionary(dictionaries), listOf(listSchemas), structure(plain("a", structures))
	}
	for _, v := range []api.Value{maps, lists, null(), fields(field("a", number(1))), list(keyed("x"))} {
		for _, s := range []api.Schema{dictionaries, listSchemas, structures, dictionary(flag()), keyedList()} {
			if schema.Valid(s) && value.Valid(v) {
				continue
			}
			if l := Leaves(s, v); len(l) > 0 {
				t.Errorf("%d leaves of deep arguments", len(l))
			}
			if !value.Equal(Keep(s, v, nil), v) || !value.Equal(Drop(s, v, set("a")), v) {
				t.Error("parts of deep arguments")
			}
		}
	}
}
