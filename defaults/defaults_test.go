package defaults

import (
	"fmt"
	"reflect"
	"slices"
	"testing"

	"orchestrator/api"
	"orchestrator/schema"
	"orchestrator/value"
)

// The values of the tests are made by hand, so that what a test expects does not come from the functions that are used below.

func null() api.Value { return api.Value{} }

func truth(n int) api.Value { return api.Value{Kind: api.VBool, N: n} }

func number(n int) api.Value { return api.Value{Kind: api.VInt, N: n} }

func text(s string) api.Value { return api.Value{Kind: api.VString, S: s} }

func list(l ...api.Value) api.Value { return api.Value{Kind: api.VList, List: l} }

func fields(f ...api.Field) api.Value { return api.Value{Kind: api.VMap, Fields: f} }

func field(name string, v api.Value) api.Field { return api.Field{Name: name, V: v} }

// The schemas: a boolean, integers, strings, lists, dictionaries and structures.

func flag() api.Schema { return api.Schema{Kind: api.VBool} }

func whole() api.Schema { return api.Schema{Kind: api.VInt, Max: 9} }

func word() api.Schema { return api.Schema{Kind: api.VString, Max: 9} }

func listOf(items ...api.Schema) api.Schema {
	return api.Schema{Kind: api.VList, Max: 64, Items: items}
}

func dictionary(items ...api.Schema) api.Schema { return api.Schema{Kind: api.VMap, Items: items} }

func structure(f ...api.SchemaField) api.Schema { return api.Schema{Kind: api.VMap, Fields: f} }

func plain(name string, s api.Schema) api.SchemaField { return api.SchemaField{Name: name, S: s} }

func withDefault(name string, s api.Schema, l ...api.Value) api.SchemaField {
	return api.SchemaField{Name: name, S: s, Default: l}
}

// sized is the structure with the field n of integers, by default 7, in which most tests see whether a place was entered.
func sized() api.Schema { return structure(withDefault("n", whole(), number(7))) }

// seven is what sized makes of an empty map.
func seven() api.Value { return fields(field("n", number(7))) }

// oneOfEach returns a value of each kind, by kind.
func oneOfEach() []api.Value {
	return []api.Value{null(), truth(1), number(5), text("x"), list(), fields()}
}

// severalValues are values of all kinds, with nulls in lists and maps among them.
func severalValues() []api.Value {
	return append(oneOfEach(), truth(0), number(-1), number(99), text(""), text("longer than nine"),
		list(null()), list(fields()), list(fields(field("n", null()), field("z", number(1)))), list(number(1), null(), list(null())),
		fields(field("a", null())), fields(field("n", null())), fields(field("n", number(1))), fields(field("z", list(null(), fields()))), fields(field("a", fields(field("n", null())))), fields(field("a", seven()), field("n", text("x"))))
}

// severalSchemas are valid schemas of all kinds.
func severalSchemas() []api.Schema {
	return []api.Schema{
		flag(), whole(), word(), listOf(flag()), listOf(sized()), dictionary(whole()), dictionary(sized()), structure(), sized(),
		structure(plain("a", sized())), structure(withDefault("a", sized(), fields())), listOf(listOf(sized())), dictionary(dictionary(sized())),
	}
}

// copied copies v; slices that are empty become nil.
func copied(v api.Value) api.Value {
	other := api.Value{Kind: v.Kind, N: v.N, S: v.S}
	for _, one := range v.List {
		other.List = append(other.List, copied(one))
	}
	for _, one := range v.Fields {
		other.Fields = append(other.Fields, field(one.Name, copied(one.V)))
	}
	return other
}

// same reports whether a and b agree in all members, but for the difference of nil and empty.
func same(a, b api.Value) bool { return reflect.DeepEqual(copied(a), copied(b)) }

// copiedSchema copies s; slices that are empty become nil.
func copiedSchema(s api.Schema) api.Schema {
	other := api.Schema{Kind: s.Kind, Min: s.Min, Max: s.Max, Key: s.Key}
	other.Enum = append(other.Enum, s.Enum...)
	for _, one := range s.Items {
		other.Items = append(other.Items, copiedSchema(one))
	}
	for _, one := range s.Fields {
		f := api.SchemaField{Name: one.Name, Required: one.Required, Immutable: one.Immutable, S: copiedSchema(one.S)}
		for _, v := range one.Default {
			f.Default = append(f.Default, copied(v))
		}
		other.Fields = append(other.Fields, f)
	}
	return other
}

func sameSchema(a, b api.Schema) bool { return reflect.DeepEqual(copiedSchema(a), copiedSchema(b)) }

// cells returns the places in memory that the slices of a value reach, spare ones included.
func cells(v api.Value) []any {
	all := []any{}
	spareList, spareFields := v.List[:cap(v.List)], v.Fields[:cap(v.Fields)]
	for i := range spareList {
		all = append(all, &spareList[i])
	}
	for i := range spareFields {
		all = append(all, &spareFields[i])
	}
	for _, one := range v.List {
		all = append(all, cells(one)...)
	}
	for _, one := range v.Fields {
		all = append(all, cells(one.V)...)
	}
	return all
}

// cellsOf returns the places in memory that the values of a schema reach, spare ones included.
func cellsOf(s api.Schema) []any {
	all := []any{}
	for _, one := range s.Items {
		all = append(all, cellsOf(one)...)
	}
	for _, one := range s.Fields {
		all = append(append(all, cellsOf(one.S)...), cells(api.Value{List: one.Default})...)
	}
	return all
}

// run calls one of the two functions; it checks that the arguments stay as they were, that the result has memory of its own, each part of it, and that a second call answers the same.
func run(t *testing.T, name string, call func(api.Schema, api.Value) api.Value, s api.Schema, v api.Value) api.Value {
	t.Helper()
	beforeS, beforeV := copiedSchema(s), copied(v)
	got := call(s, v)
	taken := map[any]bool{}
	for _, one := range append(cells(v), cellsOf(s)...) {
		taken[one] = true
	}
	for _, one := range cells(got) {
		if taken[one] {
			t.Fatalf("%s(%+v, %+v) = %+v shares memory with an argument or within itself", name, s, v, got)
		}
		taken[one] = true
	}
	if again := call(s, v); !same(got, again) {
		t.Fatalf("%s(%+v, %+v) = %+v and %+v", name, s, v, got, again)
	}
	if !sameSchema(s, beforeS) || !same(v, beforeV) {
		t.Fatalf("%s changed %+v, %+v to %+v, %+v", name, beforeS, beforeV, s, v)
	}
	return got
}

func checkFill(t *testing.T, s api.Schema, v, want api.Value) {
	t.Helper()
	if got := run(t, "Fill", Fill, s, v); !same(got, want) {
		t.Errorf("Fill(%+v, %+v) = %+v; want %+v", s, v, got, want)
	}
}

func checkPrune(t *testing.T, s api.Schema, v, want api.Value) {
	t.Helper()
	if got := run(t, "Prune", Prune, s, v); !same(got, want) {
		t.Errorf("Prune(%+v, %+v) = %+v; want %+v", s, v, got, want)
	}
}

// checkBoth checks that both functions make want of v.
func checkBoth(t *testing.T, s api.Schema, v, want api.Value) {
	t.Helper()
	checkFill(t, s, v, want)
	checkPrune(t, s, v, want)
}

func TestExamples(t *testing.T) { // P8.1, P8.2
	s := structure(withDefault("a", whole(), number(5)), plain("b", structure(withDefault("c", word(), text("x")))))
	checkFill(t, s, fields(), fields(field("a", number(5))))
	checkFill(t, s, fields(field("a", null()), field("b", fields())), fields(field("a", number(5)), field("b", fields(field("c", text("x"))))))
	checkPrune(t, s, fields(field("a", number(1)), field("b", fields(field("c", null()))), field("z", number(2))), fields(field("a", number(1)), field("b", fields())))
}

// around is a schema with another one below it, and the value with another one at that place.
type around struct {
	s func(api.Schema) api.Schema
	v func(api.Value) api.Value
}

// surroundings are the root and places below it that are entered; what is around such a place stays, if no null stands there.
func surroundings() []around {
	itself := func(v api.Value) api.Value { return v }
	return []around{
		{func(s api.Schema) api.Schema { return s }, itself},
		{func(s api.Schema) api.Schema { return listOf(s) }, func(v api.Value) api.Value { return list(v) }},
		{func(s api.Schema) api.Schema { return dictionary(s) }, func(v api.Value) api.Value { return fields(field("a/b", v)) }},
		{func(s api.Schema) api.Schema { return structure(plain("a", flag()), plain("b", s), plain("c", s)) }, func(v api.Value) api.Value { return fields(field("b", v), field("c", v)) }},
		{func(s api.Schema) api.Schema { return listOf(dictionary(listOf(s))) }, func(v api.Value) api.Value {
			return list(fields(), fields(field("x", list(v, v)), field("y", list())), fields(field("z", list(v))))
		}},
		{func(s api.Schema) api.Schema { return dictionary(structure(plain("m", listOf(s)))) }, func(v api.Value) api.Value { return fields(field("k", fields(field("m", list(v))))) }},
	}
}

func TestOtherKindsStay(t *testing.T) { // P8.1, P8.2
	for _, s := range severalSchemas() {
		for _, v := range severalValues() {
			if v.Kind == s.Kind {
				continue
			}
			checkBoth(t, s, v, v)
			checkBoth(t, listOf(s), list(v, v), list(v, v))
			if v.Kind == api.VNull {
				continue
			}
			for _, x := range surroundings() {
				checkBoth(t, x.s(s), x.v(v), x.v(v))
			}
		}
	}
}

func TestNumbersTextsAndBooleansStay(t *testing.T) { // P8.1, P8.2
	narrow := api.Schema{Kind: api.VString, Min: 2, Max: 2, Enum: []string{"aa", "bb"}}
	for _, x := range surroundings() {
		for _, n := range []int{-api.MaxNumber, -1, 0, 1, 5, 9, 10, api.MaxNumber} {
			checkBoth(t, x.s(whole()), x.v(number(n)), x.v(number(n)))
		}
		for _, s := range []string{"", "a", "aa", "cc", "longer than nine"} {
			checkBoth(t, x.s(word()), x.v(text(s)), x.v(text(s)))
			checkBoth(t, x.s(narrow), x.v(text(s)), x.v(text(s)))
		}
		checkBoth(t, x.s(flag()), x.v(truth(0)), x.v(truth(0)))
		checkBoth(t, x.s(flag()), x.v(truth(1)), x.v(truth(1)))
	}
}

// suitable returns schemas, and two different values under each.
func suitable() []struct {
	s    api.Schema
	a, b api.Value
} {
	return []struct {
		s    api.Schema
		a, b api.Value
	}{
		{flag(), truth(0), truth(1)}, {whole(), number(0), number(5)}, {word(), text(""), text("x")},
		{listOf(whole()), list(), list(number(1), number(2))}, {dictionary(whole()), fields(), fields(field("z", number(1)))},
		{structure(plain("a", whole())), fields(), fields(field("a", number(1)))},
	}
}

func TestFillMissingFields(t *testing.T) { // P8.1
	for _, x := range suitable() {
		for _, pair := range [][2]api.Value{{x.a, x.b}, {x.b, x.a}} {
			given, other := pair[0], pair[1]
			s := structure(plain("a", x.s), withDefault("b", x.s, given), withDefault("c", x.s, other), plain("d", x.s))
			full := fields(field("b", given), field("c", other))
			checkFill(t, s, fields(), full)
			checkFill(t, s, fields(field("b", null())), full)
			checkFill(t, s, fields(field("c", null())), full)
			checkFill(t, s, fields(field("b", null()), field("c", null())), full)
			// What is there stays, even if it is the smallest value of its kind.
			checkFill(t, s, fields(field("b", other)), fields(field("b", other), field("c", other)))
			checkFill(t, s, fields(field("b", other), field("c", given)), fields(field("b", other), field("c", given)))
			checkFill(t, s, fields(field("a", given), field("c", given), field("d", other)), fields(field("a", given), field("b", given), field("c", given), field("d", other)))
			// A field without a default stays absent or null.
			checkFill(t, s, fields(field("a", null())), fields(field("a", null()), field("b", given), field("c", other)))
			checkFill(t, s, fields(field("a", null()), field("c", null()), field("d", null())), fields(field("a", null()), field("b", given), field("c", other), field("d", null())))
			// A value of another kind is not missing.
			for _, v := range severalValues() {
				if v.Kind != x.s.Kind && v.Kind != api.VNull {
					checkFill(t, s, fields(field("b", v), field("d", v)), fields(field("b", v), field("c", other), field("d", v)))
				}
			}
		}
	}
	// Neither an Immutable field nor a Required one is another one than the rest.
	odd := structure(api.SchemaField{Name: "a", Required: true, Immutable: true, S: whole(), Default: []api.Value{number(3)}}, api.SchemaField{Name: "b", Required: true, Immutable: true, S: whole()})
	checkFill(t, odd, fields(), fields(field("a", number(3))))
	checkFill(t, odd, fields(field("b", null())), fields(field("a", number(3)), field("b", null())))
	checkPrune(t, odd, fields(field("a", null()), field("b", null())), fields())
}

func TestFillSortsTheFields(t *testing.T) { // P8.1
	names := []string{"-", "/", "10", "9", "A", "B", "_", "a", "aa", "ab", "b"}
	for have := range 1 << len(names) {
		s, v, want := structure(), fields(), fields()
		for i, name := range names {
			s.Fields = append(s.Fields, withDefault(name, whole(), number(i)))
			if have>>i&1 == 1 {
				v.Fields = append(v.Fields, field(name, number(-1)))
				want.Fields = append(want.Fields, field(name, number(-1)))
			} else {
				want.Fields = append(want.Fields, field(name, number(i)))
			}
		}
		checkFill(t, s, v, want)
		checkPrune(t, s, v, v)
		// The same with fields that the schema does not have among them.
		half := structure()
		kept := fields()
		for i, name := range names {
			if i%2 == 0 {
				half.Fields = append(half.Fields, plain(name, whole()))
				if have>>i&1 == 1 {
					kept.Fields = append(kept.Fields, field(name, number(-1)))
				}
			}
		}
		checkFill(t, half, v, v)
		checkPrune(t, half, v, kept)
	}
}

func TestDefaultsBelowDefaults(t *testing.T) { // P8.1
	// An empty default gets what is missing in it, at each level.
	s := structure(withDefault("a", structure(plain("m", sized()), withDefault("o", sized(), fields()), withDefault("p", structure(withDefault("q", sized(), fields())), fields())), fields(field("m", fields()))))
	full := fields(field("a", fields(field("m", seven()), field("o", seven()), field("p", fields(field("q", seven()))))))
	checkFill(t, s, fields(), full)
	checkFill(t, s, fields(field("a", null())), full)
	checkFill(t, s, fields(field("a", fields())), fields(field("a", fields(field("o", seven()), field("p", fields(field("q", seven())))))))
	checkFill(t, s, fields(field("a", fields(field("o", number(1)), field("p", fields(field("q", null())))))), fields(field("a", fields(field("o", number(1)), field("p", fields(field("q", seven())))))))
	// What a default has is not replaced by the defaults below it.
	other := fields(field("n", number(2)))
	checkFill(t, structure(withDefault("a", sized(), other)), fields(), fields(field("a", other)))
	checkFill(t, structure(withDefault("a", sized(), other)), fields(field("a", fields())), fields(field("a", seven())))
	checkFill(t, structure(withDefault("a", sized(), other)), fields(field("a", fields(field("n", null())))), fields(field("a", seven())))
	// A default is entered like any other value: its lists and its dictionaries too.
	checkFill(t, structure(withDefault("a", listOf(sized()), list(fields(), other, fields()))), fields(), fields(field("a", list(seven(), other, seven()))))
	checkFill(t, structure(withDefault("a", dictionary(sized()), fields(field("x", fields()), field("y", other)))), fields(), fields(field("a", fields(field("x", seven()), field("y", other)))))
	checkFill(t, structure(withDefault("a", dictionary(listOf(sized())), fields(field("x", list(fields()))))), fields(field("a", null())), fields(field("a", fields(field("x", list(seven()))))))
	// A structure that is missing and has no default is not made for the defaults below it.
	checkFill(t, structure(plain("a", sized()), plain("b", structure(withDefault("c", sized(), fields())))), fields(), fields())
	checkFill(t, structure(plain("a", sized())), fields(field("a", null())), fields(field("a", null())))
}

func TestFillUsesADefaultAgainAndAgain(t *testing.T) { // P8.1
	s := listOf(structure(withDefault("a", listOf(dictionary(sized())), list(fields(field("x", fields()))))))
	each := fields(field("a", list(fields(field("x", seven())))))
	checkFill(t, s, list(fields(), fields(), fields()), list(each, each, each))
	// Two fields whose defaults are one and the same memory.
	shared := list(fields(field("x", list(number(1)))), fields())
	twice := structure(withDefault("a", listOf(dictionary(listOf(whole()))), shared), withDefault("b", listOf(dictionary(listOf(whole()))), shared))
	checkFill(t, twice, fields(), fields(field("a", shared), field("b", shared)))
}

func TestUnknownFields(t *testing.T) { // P8.1, P8.2
	for _, x := range surroundings() {
		for _, v := range severalValues() {
			s := structure(withDefault("b", whole(), number(3)), plain("n", whole()))
			unknown := fields(field("A", v), field("a", v), field("bb", v), field("nn", v), field("z", v))
			checkFill(t, x.s(s), x.v(unknown), x.v(fields(field("A", v), field("a", v), field("b", number(3)), field("bb", v), field("nn", v), field("z", v))))
			checkPrune(t, x.s(s), x.v(unknown), x.v(fields()))
			mixed := fields(field("a", v), field("b", number(1)), field("c", v), field("n", number(2)))
			checkFill(t, x.s(s), x.v(mixed), x.v(mixed))
			checkPrune(t, x.s(s), x.v(mixed), x.v(fields(field("b", number(1)), field("n", number(2)))))
			// A structure without fields knows none.
			checkFill(t, x.s(structure()), x.v(mixed), x.v(mixed))
			checkPrune(t, x.s(structure()), x.v(mixed), x.v(fields()))
		}
	}
	// What is below an unknown field is not entered, though a field with its name is known elsewhere.
	s := structure(plain("a", structure(withDefault("b", sized(), fields()))))
	v := fields(field("b", fields(field("n", null()))), field("c", list(fields(field("a", fields())))))
	checkFill(t, s, v, v)
	checkPrune(t, s, v, fields())
}

func TestPruneStructures(t *testing.T) { // P8.2
	for _, x := range suitable() {
		s := structure(plain("a", x.s), withDefault("b", x.s, x.a), withDefault("c", x.s, x.b), plain("d", x.s))
		checkPrune(t, s, fields(), fields())
		checkPrune(t, s, fields(field("a", null()), field("b", null()), field("c", null()), field("d", null())), fields())
		checkPrune(t, s, fields(field("a", x.a), field("b", null()), field("c", x.b), field("d", null())), fields(field("a", x.a), field("c", x.b)))
		checkPrune(t, s, fields(field("a", null()), field("b", x.a), field("c", x.b)), fields(field("b", x.a), field("c", x.b)))
		all := fields(field("a", x.a), field("b", x.a), field("c", x.b), field("d", x.b))
		checkPrune(t, s, all, all)
		for _, v := range severalValues() {
			if v.Kind != x.s.Kind && v.Kind != api.VNull {
				checkPrune(t, s, fields(field("a", v), field("b", v), field("z", v)), fields(field("a", v), field("b", v)))
			}
		}
	}
	// A map whose fields all go stays, and so do the elements of a list.
	s := structure(plain("a", sized()), plain("b", listOf(sized())), plain("c", dictionary(sized())))
	gone := fields(field("n", null()), field("z", number(1)))
	checkPrune(t, s, fields(field("a", gone), field("b", list(gone, null(), gone)), field("c", fields(field("x", gone), field("y", null()))), field("d", gone)),
		fields(field("a", fields()), field("b", list(fields(), null(), fields())), field("c", fields(field("x", fields())))))
}

func TestDictionariesAndLists(t *testing.T) { // P8.1, P8.2
	mixed := fields(field("n", null()), field("z", null()))
	filled := fields(field("n", number(7)), field("z", null()))
	for _, x := range surroundings() {
		checkBoth(t, x.s(listOf(sized())), x.v(list()), x.v(list()))
		checkBoth(t, x.s(dictionary(sized())), x.v(fields()), x.v(fields()))
		// Nulls stay in lists, where they hold the places of the others.
		v := list(null(), fields(), null(), mixed, number(1), list(null()), null())
		checkFill(t, x.s(listOf(sized())), x.v(v), x.v(list(null(), seven(), null(), filled, number(1), list(null()), null())))
		checkPrune(t, x.s(listOf(sized())), x.v(v), x.v(list(null(), fields(), null(), fields(), number(1), list(null()), null())))
		d := fields(field("a", null()), field("b", fields()), field("c", null()), field("d", mixed), field("e", number(1)), field("f", list(null())), field("g", null()))
		checkFill(t, x.s(dictionary(sized())), x.v(d), x.v(fields(field("a", null()), field("b", seven()), field("c", null()), field("d", filled), field("e", number(1)), field("f", list(null())), field("g", null()))))
		checkPrune(t, x.s(dictionary(sized())), x.v(d), x.v(fields(field("b", fields()), field("d", fields()), field("e", number(1)), field("f", list(null())))))
		// Lists and dictionaries of what has no fields.
		for _, one := range []api.Schema{flag(), whole(), word()} {
			all := list(severalValues()...)
			checkBoth(t, x.s(listOf(one)), x.v(all), x.v(all))
			named := fields(field("a", number(1)), field("b", text("x")), field("c", fields(field("d", null()))))
			checkBoth(t, x.s(dictionary(one)), x.v(named), x.v(named))
		}
	}
	// A list with a key is a list like others; which elements have one key does not matter.
	keyed := listOf(structure(api.SchemaField{Name: "k", Required: true, S: word()}, withDefault("n", whole(), number(7))))
	keyed.Key = "k"
	x := fields(field("k", text("x")))
	full := fields(field("k", text("x")), field("n", number(7)))
	checkFill(t, keyed, list(x, x, fields(), fields(field("k", null()))), list(full, full, seven(), fields(field("k", null()), field("n", number(7)))))
	checkPrune(t, keyed, list(x, x, fields(field("k", null()), field("z", number(1)))), list(x, x, fields()))
}

func TestListsWithoutOneSchema(t *testing.T) { // P8.1, P8.2
	v := list(null(), fields(), fields(field("n", null()), field("z", number(1))), list(null(), fields()), number(1))
	for n := range 5 {
		if n == 1 {
			continue
		}
		odd := listOf(slices.Repeat([]api.Schema{sized()}, n)...)
		for _, x := range surroundings() {
			checkBoth(t, x.s(odd), x.v(v), x.v(v))
			checkBoth(t, x.s(odd), x.v(list()), x.v(list()))
			checkBoth(t, x.s(odd), x.v(fields(field("a", null()))), x.v(fields(field("a", null()))))
			checkBoth(t, x.s(listOf(odd)), x.v(list(v, v)), x.v(list(v, v)))
		}
		odd.Key = "n"
		checkBoth(t, odd, v, v)
		checkFill(t, structure(withDefault("a", odd, v)), fields(field("a", null())), fields(field("a", v)))
		checkFill(t, structure(withDefault("a", odd, v), withDefault("b", sized(), fields())), fields(), fields(field("a", v), field("b", seven())))
	}
}

func TestDefaultsWithNulls(t *testing.T) { // P8.1, P8.2, P8.3
	// In a dictionary and in a list of a default a null stays; in a structure it is missing.
	s := structure(
		withDefault("a", dictionary(sized()), fields(field("x", null()), field("y", fields(field("n", null()))))),
		withDefault("b", structure(plain("m", whole()), withDefault("n", whole(), number(7))), fields(field("m", null()), field("n", null()))),
	)
	filled := fields(field("a", fields(field("x", null()), field("y", seven()))), field("b", fields(field("m", null()), field("n", number(7)))))
	checkFill(t, s, fields(), filled)
	checkFill(t, s, filled, filled)
	pruned := fields(field("a", fields(field("y", seven()))), field("b", seven()))
	checkPrune(t, s, filled, pruned)
	checkFill(t, s, pruned, pruned)
	// With such a default it matters which of the two functions comes first.
	checkFill(t, s, Prune(s, fields()), filled)
	checkPrune(t, s, Fill(s, fields()), pruned)
}

func TestResultsThatAreTooLarge(t *testing.T) { // P8.1, P8.5
	wide, full := structure(), fields()
	for i := range 64 {
		name := fmt.Sprint("w", 100+i)
		wide.Fields = append(wide.Fields, withDefault(name, whole(), number(i%10)))
		full.Fields = append(full.Fields, field(name, number(i%10)))
	}
	if !schema.Valid(listOf(wide)) {
		t.Fatal("the schema is not valid")
	}
	for _, n := range []int{0, 1, 9, 10, 64} {
		before := list(slices.Repeat([]api.Value{fields()}, n)...)
		after := list(slices.Repeat([]api.Value{full}, n)...)
		if value.Valid(after) != (n < 10) {
			t.Fatalf("%d maps of 64 fields", n)
		}
		checkFill(t, listOf(wide), before, after)
		checkPrune(t, listOf(wide), after, after)
	}
	// A map with more fields than a valid one may have.
	others := fields()
	for i := range 64 {
		others.Fields = append(others.Fields, field(fmt.Sprint("v", 100+i), null()))
	}
	both := fields(append(slices.Clone(others.Fields), full.Fields...)...)
	checkFill(t, wide, others, both)
	checkPrune(t, wide, both, full)
	checkPrune(t, wide, others, fields())
}

func TestLimits(t *testing.T) { // P8.1, P8.2
	// Twelve levels, the deepest that are valid.
	s, empty, filled, unknown := sized(), fields(), seven(), fields(field("z", null()))
	for i := range 10 {
		if i%2 == 0 {
			s, empty, filled, unknown = dictionary(s), fields(field("a", empty)), fields(field("a", filled)), fields(field("a", unknown))
		} else {
			s, empty, filled, unknown = listOf(s), list(empty), list(filled), list(unknown)
		}
		s, filled, unknown = copiedSchema(s), copied(filled), copied(unknown)
		if !schema.Valid(s) || !value.Valid(filled) {
			t.Fatalf("level %d", i)
		}
		checkFill(t, s, empty, filled)
		checkPrune(t, s, filled, filled)
		checkPrune(t, s, unknown, empty)
	}
	longest := list(slices.Repeat([]api.Value{fields()}, 64)...)
	checkFill(t, listOf(sized()), longest, list(slices.Repeat([]api.Value{seven()}, 64)...))
	checkPrune(t, listOf(sized()), longest, longest)
}

// deepSchemas are structures, dictionaries and lists in one another, of the given number of levels, with sized innermost.
func deepSchemas(levels int) []api.Schema {
	all := []api.Schema{sized(), sized(), sized()}
	for range levels {
		all[0], all[1], all[2] = structure(plain("a", all[0])), dictionary(all[1]), listOf(all[2])
	}
	return all
}

// deepValues are values for the schemas of deepSchemas, with v innermost.
func deepValues(levels int, v api.Value) []api.Value {
	all := []api.Value{v, v, v}
	for range levels {
		all[0], all[1], all[2] = fields(field("a", all[0])), fields(field("a", all[1])), list(all[2])
	}
	return all
}

func TestDeepArguments(t *testing.T) { // P1
	const levels = 1<<16 - 2
	empty, filled, unknown := deepValues(levels, fields()), deepValues(levels, seven()), deepValues(levels, fields(field("z", number(1))))
	for i, s := range deepSchemas(levels) {
		if got := Fill(s, empty[i]); !value.Equal(got, filled[i]) {
			t.Error("Fill of a deep value with a deep schema")
		}
		if got := Prune(s, unknown[i]); !value.Equal(got, empty[i]) {
			t.Error("Prune of a deep value with a deep schema")
		}
		for _, other := range severalSchemas() {
			Fill(other, filled[i])
			Prune(other, filled[i])
		}
		for _, v := range severalValues() {
			Fill(s, v)
			Prune(s, v)
		}
	}
	// Each level has a default with the next one missing in it.
	chain := structure()
	for range levels {
		chain = structure(withDefault("a", chain, fields()))
	}
	if got := Fill(chain, fields()); !value.Equal(got, empty[0]) {
		t.Error("Fill with a chain of defaults")
	}
	if got := Fill(structure(withDefault("a", dictionary(flag()), filled[0])), fields()); !value.Equal(got, fields(field("a", filled[0]))) {
		t.Error("Fill with a deep default")
	}
	// A schema that is both deep and wide is gone through only where there are values.
	wide := flag()
	for range 1 << 10 {
		wide = structure(plain("a", wide), plain("b", wide), plain("c", listOf(wide)), plain("d", dictionary(wide)))
	}
	v := fields(field("b", fields(field("a", fields()))), field("c", list(fields(), null())))
	if !value.Equal(Fill(wide, v), v) || !value.Equal(Prune(wide, v), v) {
		t.Error("a schema that is deep and wide")
	}
}
