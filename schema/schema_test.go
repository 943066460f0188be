package schema

import (
	"fmt"
	"math"
	"reflect"
	"slices"
	"strings"
	"testing"

	"orchestrator/api"
)

// The values of the tests are made by hand, so that what a test expects does not come from the functions that are used below.

func number(n int) api.Value { return api.Value{Kind: api.VInt, N: n} }

func text(s string) api.Value { return api.Value{Kind: api.VString, S: s} }

func truth(n int) api.Value { return api.Value{Kind: api.VBool, N: n} }

func list(l ...api.Value) api.Value { return api.Value{Kind: api.VList, List: l} }

func fields(f ...api.Field) api.Value { return api.Value{Kind: api.VMap, Fields: f} }

func field(name string, v api.Value) api.Field { return api.Field{Name: name, V: v} }

// many returns a list of n nulls.
func many(n int) api.Value { return list(make([]api.Value, n)...) }

// nested returns maps in one another, with the given number of levels.
func nested(levels int) api.Value {
	v := api.Value{}
	for range levels - 1 {
		v = fields(field("a", v))
	}
	return v
}

// The schemas: a boolean, integers, strings, lists, dictionaries and structures.

func flag() api.Schema { return api.Schema{Kind: api.VBool} }

func whole(least, most int) api.Schema { return api.Schema{Kind: api.VInt, Min: least, Max: most} }

func word(least, most int, enum ...string) api.Schema {
	return api.Schema{Kind: api.VString, Min: least, Max: most, Enum: enum}
}

func listOf(least, most int, items ...api.Schema) api.Schema {
	return api.Schema{Kind: api.VList, Min: least, Max: most, Items: items}
}

func keyedList(key string, item api.Schema) api.Schema {
	return api.Schema{Kind: api.VList, Max: 64, Key: key, Items: []api.Schema{item}}
}

func dictionary(items ...api.Schema) api.Schema { return api.Schema{Kind: api.VMap, Items: items} }

func structure(f ...api.SchemaField) api.Schema { return api.Schema{Kind: api.VMap, Fields: f} }

func plain(name string, s api.Schema) api.SchemaField { return api.SchemaField{Name: name, S: s} }

func required(name string, s api.Schema) api.SchemaField {
	return api.SchemaField{Name: name, S: s, Required: true}
}

func fixed(name string, s api.Schema) api.SchemaField {
	return api.SchemaField{Name: name, S: s, Immutable: true}
}

func withDefault(name string, s api.Schema, l ...api.Value) api.SchemaField {
	return api.SchemaField{Name: name, S: s, Default: l}
}

// entry is the schema of the elements of keyed lists in the tests: a map with the key k and other fields.
func entry(f ...api.SchemaField) api.Schema {
	return structure(append([]api.SchemaField{required("k", word(0, 9))}, f...)...)
}

func letters(n int) string { return strings.Repeat("a", n) }

// words returns n strings in order.
func words(n int) []string {
	l := []string{}
	for i := range n {
		l = append(l, fmt.Sprintf("w%d", 100+i))
	}
	return l
}

// manyFields returns n fields of a structure in order.
func manyFields(n int) []api.SchemaField {
	f := []api.SchemaField{}
	for _, one := range words(n) {
		f = append(f, plain(one, flag()))
	}
	return f
}

// copied copies v; slices that are empty become nil.
func copied(v api.Value) api.Value {
	other := api.Value{Kind: v.Kind, N: v.N, S: v.S}
	for _, one := range v.List {
		other.List = append(other.List, copied(one))
	}
	for _, one := range v.Fields {
		other.Fields = append(other.Fields, field(one.Name, copied(one.V)))
	}
	return other
}

// same reports whether a and b agree in all members, but for the difference of nil and empty.
func same(a, b api.Value) bool { return reflect.DeepEqual(copied(a), copied(b)) }

// copiedSchema copies s; slices that are empty become nil.
func copiedSchema(s api.Schema) api.Schema {
	other := api.Schema{Kind: s.Kind, Min: s.Min, Max: s.Max, Key: s.Key}
	other.Enum = append(other.Enum, s.Enum...)
	for _, one := range s.Items {
		other.Items = append(other.Items, copiedSchema(one))
	}
	for _, one := range s.Fields {
		f := api.SchemaField{Name: one.Name, Required: one.Required, Immutable: one.Immutable, S: copiedSchema(one.S)}
		for _, v := range one.Default {
			f.Default = append(f.Default, copied(v))
		}
		other.Fields = append(other.Fields, f)
	}
	return other
}

func sameSchema(a, b api.Schema) bool { return reflect.DeepEqual(copiedSchema(a), copiedSchema(b)) }

func checkValid(t *testing.T, s api.Schema, want bool) {
	t.Helper()
	before := copiedSchema(s)
	if got := Valid(s); got != want {
		t.Errorf("Valid(%+v) = %v; want %v", s, got, want)
	}
	if !sameSchema(s, before) {
		t.Fatalf("Valid changed %+v to %+v", before, s)
	}
}

// checkAnywhere checks whether a schema is valid, wherever it stands in another one.
func checkAnywhere(t *testing.T, s api.Schema, want bool) {
	t.Helper()
	checkValid(t, s, want)
	checkValid(t, listOf(0, 9, s), want)
	checkValid(t, dictionary(s), want)
	checkValid(t, structure(plain("a", flag()), plain("b", s)), want)
	checkValid(t, structure(required("a", listOf(1, 2, dictionary(s))), plain("b", flag())), want)
	checkValid(t, keyedList("k", entry(fixed("n", s))), want)
}

// oddValues are values that are not valid, each for one reason.
func oddValues() []api.Value {
	crowd := list(append(slices.Repeat([]api.Value{many(64)}, 9), many(14))...)
	return []api.Value{
		{Kind: -1}, {Kind: 6}, {Kind: math.MaxInt}, {N: 1}, {S: "a"}, {List: []api.Value{{}}}, {Fields: []api.Field{field("a", api.Value{})}},
		truth(2), truth(-1), number(api.MaxNumber + 1), number(math.MinInt), text("\x00"), text("é"), text(letters(201)), {Kind: api.VString, S: "x", N: 1},
		many(65), {Kind: api.VList, N: 1}, {Kind: api.VMap, S: "a"}, fields(field("", number(1))), fields(field("a b", number(1))), fields(field(letters(41), number(1))),
		fields(field("b", number(1)), field("a", number(1))), fields(field("a", number(1)), field("a", number(1))), nested(13), crowd,
	}
}

// oddSchemas are schemas that are not valid, each for one reason.
func oddSchemas() []api.Schema {
	return []api.Schema{
		{}, {Kind: -1}, {Kind: 6}, {Kind: math.MaxInt}, {Kind: math.MinInt}, {Kind: 0, Max: 5}, {Kind: 0, Items: []api.Schema{flag()}},
		{Kind: api.VBool, Max: 1}, whole(2, 1), whole(-api.MaxNumber-1, 0), word(-1, 5), word(0, 201), word(0, 5, "b", "a"), word(0, 5, "é"),
		listOf(0, 5), listOf(0, 5, flag(), flag()), listOf(0, 65, flag()), keyedList("k", flag()), keyedList("k", dictionary(word(0, 5))), keyedList("k", structure(plain("k", word(0, 5)))),
		dictionary(flag(), flag()), {Kind: api.VMap, Items: []api.Schema{flag()}, Fields: []api.SchemaField{plain("a", flag())}},
		structure(plain("", flag())), structure(plain("b", flag()), plain("a", flag())), structure(plain("a", flag()), plain("a", flag())),
		structure(withDefault("a", flag(), number(1))), structure(withDefault("a", flag(), truth(1), truth(1))), structure(manyFields(65)...), deepList(13),
	}
}

func TestValidKinds(t *testing.T) { // P7.1
	for _, s := range []api.Schema{
		flag(), whole(0, 0), whole(-3, 7), word(0, 0), word(1, 10), word(0, 3, "", "a", "ab"), listOf(0, 0, flag()), listOf(2, 5, word(0, 1)),
		keyedList("k", entry()), keyedList("name", structure(required("name", word(1, 10)), plain("port", whole(1, 99)))),
		dictionary(flag()), dictionary(dictionary(dictionary(whole(1, 2)))), structure(), structure(plain("a", flag())), structure(required("a", flag()), fixed("b", structure()), withDefault("c", whole(1, 9), number(5))),
		structure(api.SchemaField{Name: "a", Required: true, Immutable: true, Default: []api.Value{text("x")}, S: word(1, 1)}),
	} {
		checkAnywhere(t, s, true)
	}
	for _, s := range oddSchemas() {
		checkAnywhere(t, s, false)
	}
	for kind := -3; kind <= 9; kind++ {
		checkAnywhere(t, api.Schema{Kind: kind}, kind == api.VBool || kind == api.VInt || kind == api.VString || kind == api.VMap)
		checkAnywhere(t, api.Schema{Kind: kind, Items: []api.Schema{flag()}}, kind == api.VList || kind == api.VMap)
	}
}

func TestValidUsesOwnMembers(t *testing.T) { // P7.1
	bases := []api.Schema{flag(), whole(-5, 5), word(0, 5), listOf(0, 5, entry()), dictionary(flag()), structure(plain("a", flag()))}
	others := []func(s *api.Schema){
		func(s *api.Schema) { s.Min = -1 }, func(s *api.Schema) { s.Min = 1 }, func(s *api.Schema) { s.Max = 6 }, func(s *api.Schema) { s.Max = -6 },
		func(s *api.Schema) { s.Enum = []string{"a"} }, func(s *api.Schema) { s.Enum = []string{""} },
		func(s *api.Schema) { s.Key = "k" }, func(s *api.Schema) { s.Key = "a" },
		func(s *api.Schema) { s.Items = []api.Schema{entry()} }, func(s *api.Schema) { s.Fields = []api.SchemaField{required("k", word(0, 5))} },
		func(s *api.Schema) {
			s.Enum, s.Items, s.Fields = []string{}, slices.Clip(s.Items), slices.Clip(s.Fields)
		},
	}
	allowed := []string{
		"..........x", // a boolean
		"xxx.......x", // integers
		".xx.xx....x", // strings
		".xx...x.x.x", // lists
		"........x.x", // dictionaries
		".........xx", // structures
	}
	for i, base := range bases {
		checkAnywhere(t, base, true)
		for j, change := range others {
			s := copiedSchema(base)
			change(&s)
			checkAnywhere(t, s, allowed[i][j] == 'x')
		}
	}
	empty := api.Schema{Kind: api.VBool, Enum: []string{}, Items: []api.Schema{}, Fields: []api.SchemaField{}}
	for _, kind := range []int{api.VBool, api.VInt, api.VString, api.VMap} {
		empty.Kind = kind
		checkAnywhere(t, empty, true)
	}
	checkAnywhere(t, structure(api.SchemaField{Name: "a", S: flag(), Default: []api.Value{}}), true)
}

func TestValidLimits(t *testing.T) { // P7.1
	for _, limits := range []struct{ kind, least, most int }{{api.VInt, -api.MaxNumber, api.MaxNumber}, {api.VString, 0, 200}, {api.VList, 0, 64}} {
		numbers := []int{math.MinInt, limits.least - 1, limits.least, limits.least + 1, -1, 0, 1, limits.most - 1, limits.most, limits.most + 1, math.MaxInt}
		for _, low := range numbers {
			for _, high := range numbers {
				s := api.Schema{Kind: limits.kind, Min: low, Max: high}
				if limits.kind == api.VList {
					s.Items = []api.Schema{flag()}
				}
				checkAnywhere(t, s, limits.least <= low && low <= high && high <= limits.most)
			}
		}
	}
}

func TestValidEnum(t *testing.T) { // P7.1
	for n := range 70 {
		checkAnywhere(t, word(0, 10, words(n)...), n <= 64)
	}
	checkAnywhere(t, word(0, 10, words(5000)...), false)
	for _, enum := range [][]string{{""}, {"", "a"}, {"A", "B", "a"}, {"a", "aa", "ab", "b"}, {"\n", " ", "~"}, {"10", "9"}, {"aaaaa"}} {
		checkAnywhere(t, word(0, 5, enum...), true)
	}
	for _, enum := range [][]string{{"a", "a"}, {"", ""}, {"b", "a"}, {"a", "b", "a"}, {"a", "c", "b"}, {"a", "b", "b"}, {"aa", "a"}, {"a", "A"}, {"9", "10"}, {"aaaaaa"}, {"a", "aaaaaa"}} {
		checkAnywhere(t, word(0, 5, enum...), false)
	}
	for n := range 8 {
		checkAnywhere(t, word(2, 5, letters(n)), 2 <= n && n <= 5)
		checkAnywhere(t, word(2, 5, "aa", "b"+letters(n)), 2 <= n+1 && n+1 <= 5)
	}
	checkAnywhere(t, word(0, 200, letters(200)), true)
	checkAnywhere(t, word(0, 200, letters(201)), false)
	checkAnywhere(t, word(0, 201, letters(201)), false)
	for c := range 256 {
		one, ok := string([]byte{byte(c)}), c == 10 || c >= 32 && c <= 126
		checkAnywhere(t, word(0, 5, one), ok)
		checkAnywhere(t, word(0, 5, "aa"+one), ok)
		checkAnywhere(t, word(0, 5, one+"a", one+"b"), ok)
	}
	checkAnywhere(t, word(0, 5, "é"), false)
	checkAnywhere(t, word(0, 5, "\xff"), false)
}

func TestValidItems(t *testing.T) { // P7.1
	for _, ok := range []api.Schema{flag(), whole(1, 2), word(0, 3), listOf(0, 1, flag()), dictionary(flag()), structure(plain("a", flag()))} {
		checkAnywhere(t, listOf(0, 9, ok), true)
		checkAnywhere(t, dictionary(ok), true)
		for n := range 5 {
			checkAnywhere(t, listOf(0, 9, slices.Repeat([]api.Schema{ok}, n)...), n == 1)
			checkAnywhere(t, dictionary(slices.Repeat([]api.Schema{ok}, n)...), n <= 1)
			both := dictionary(slices.Repeat([]api.Schema{ok}, n)...)
			both.Fields = []api.SchemaField{plain("a", flag())}
			checkAnywhere(t, both, n == 0)
		}
		for _, odd := range oddSchemas() {
			checkAnywhere(t, listOf(0, 9, ok, odd), false)
			checkAnywhere(t, dictionary(odd, ok), false)
		}
	}
}

func TestValidKey(t *testing.T) { // P7.1
	for _, item := range []api.Schema{
		entry(), entry(plain("n", whole(1, 5))), structure(plain("a", flag()), required("k", word(0, 5, "a", "b")), plain("z", flag())),
		structure(api.SchemaField{Name: "k", Required: true, Immutable: true, Default: []api.Value{text("x")}, S: word(0, 5)}),
	} {
		checkAnywhere(t, keyedList("k", item), true)
		for _, other := range []string{"a", "n", "z", "K", "kk", " ", ".", "é", letters(41)} {
			checkAnywhere(t, keyedList(other, item), false)
		}
	}
	for _, item := range []api.Schema{
		flag(), whole(0, 5), word(0, 5), listOf(0, 5, entry()), dictionary(word(0, 5)), dictionary(entry()), structure(), structure(plain("a", word(0, 5))), structure(required("a", word(0, 5)), required("kk", word(0, 5))),
		structure(plain("k", word(0, 5))), structure(fixed("k", word(0, 5))), structure(withDefault("k", word(0, 5), text("x"))),
		structure(required("k", flag())), structure(required("k", whole(0, 5))), structure(required("k", listOf(0, 5, word(0, 5)))), structure(required("k", dictionary(word(0, 5)))), structure(required("k", entry())), structure(required("a", entry())),
	} {
		checkAnywhere(t, listOf(0, 5, item), true)
		checkAnywhere(t, keyedList("k", item), false)
	}
	both := dictionary(word(0, 5))
	both.Fields = entry().Fields
	checkAnywhere(t, keyedList("k", both), false)
	for _, key := range []string{"-_/", "0", letters(40)} {
		checkAnywhere(t, keyedList(key, structure(required(key, word(0, 5)))), true)
	}
	twice := keyedList("k", entry())
	twice.Items = append(twice.Items, entry())
	checkAnywhere(t, twice, false)
	twice.Items = nil
	checkAnywhere(t, twice, false)
}

func TestValidFields(t *testing.T) { // P7.1
	for n := range 70 {
		checkAnywhere(t, structure(manyFields(n)...), n <= 64)
	}
	checkAnywhere(t, structure(manyFields(5000)...), false)
	named := func(names ...string) api.Schema {
		s := structure()
		for _, one := range names {
			s.Fields = append(s.Fields, plain(one, flag()))
		}
		return s
	}
	for _, names := range [][]string{{"a"}, {"-", "/", "0", "A", "_", "a"}, {"a", "aa", "ab", "b"}, {"10", "9"}, {letters(40)}} {
		checkAnywhere(t, named(names...), true)
	}
	for _, names := range [][]string{{"a", "a"}, {"b", "a"}, {"a", "b", "a"}, {"a", "c", "b"}, {"a", "b", "b"}, {"aa", "a"}, {"a", "A"}, {"9", "10"}, {""}, {"", "a"}, {letters(41)}, {"a.b"}, {"a b"}, {"é"}, {"a", "b\xff"}, {"a", "b", letters(41)}} {
		checkAnywhere(t, named(names...), false)
	}
	for c := range 256 {
		one := string([]byte{byte(c)})
		ok := strings.Contains("abcdefghijklmnopqrstuvwxyzABCDEFGHIJKLMNOPQRSTUVWXYZ0123456789-_/", one)
		for _, name := range []string{one, one + "b", "b" + one, letters(39) + one} {
			checkAnywhere(t, named(name), ok)
		}
		checkAnywhere(t, named(letters(40)+one), false)
	}
	for _, odd := range oddSchemas() {
		checkAnywhere(t, structure(plain("a", odd), plain("b", flag())), false)
		checkAnywhere(t, structure(plain("a", flag()), required("b", odd)), false)
		checkAnywhere(t, structure(withDefault("a", odd, truth(1))), false)
	}
}

func TestValidDefaults(t *testing.T) { // P7.1
	pair := structure(plain("a", whole(1, 5)), required("b", flag()))
	for _, x := range []struct {
		s  api.Schema
		ok []api.Value
		no []api.Value
	}{
		{flag(), []api.Value{truth(0), truth(1)}, []api.Value{number(1), text("")}},
		{whole(-2, 5), []api.Value{number(-2), number(0), number(5)}, []api.Value{number(-3), number(6), truth(1), text("5")}},
		{word(1, 3), []api.Value{text("a"), text("aaa")}, []api.Value{text(""), text("aaaa"), number(1)}},
		{word(1, 3, "a", "bb"), []api.Value{text("a"), text("bb")}, []api.Value{text(""), text("b"), text("aaaa")}},
		{listOf(1, 2, whole(1, 5)), []api.Value{list(number(1)), list(number(5), number(5))}, []api.Value{list(), list(number(1), number(1), number(1)), list(number(6)), list(api.Value{}), fields()}},
		{keyedList("k", entry()), []api.Value{list(), list(fields(field("k", text("x"))), fields(field("k", text("y"))))}, []api.Value{list(fields()), list(fields(field("k", text("x"))), fields(field("k", text("x"))))}},
		{dictionary(whole(1, 5)), []api.Value{fields(), fields(field("x", number(1))), fields(field("x", api.Value{}))}, []api.Value{fields(field("x", number(6))), list()}},
		{pair, []api.Value{fields(field("b", truth(0))), fields(field("a", number(1)), field("b", truth(0))), fields(field("a", api.Value{}), field("b", truth(1)))}, []api.Value{fields(), fields(field("b", api.Value{})), fields(field("b", truth(0)), field("c", truth(0))), fields(field("a", number(6)), field("b", truth(0)))}},
	} {
		for _, v := range x.ok {
			checkAnywhere(t, structure(withDefault("a", x.s, v)), true)
			checkAnywhere(t, structure(plain("a", flag()), withDefault("b", x.s, v), plain("c", flag())), true)
			checkAnywhere(t, structure(withDefault("a", x.s, v, v)), false)
			checkAnywhere(t, structure(withDefault("a", x.s, v, v, v)), false)
			checkAnywhere(t, structure(withDefault("a", x.s, v, api.Value{})), false)
		}
		for _, v := range append(append(x.no, api.Value{}), oddValues()...) {
			checkAnywhere(t, structure(withDefault("a", x.s, v)), false)
			checkAnywhere(t, structure(plain("a", flag()), withDefault("b", x.s, v), plain("c", flag())), false)
			checkAnywhere(t, structure(withDefault("a", x.s, x.ok[0], v)), false)
			checkAnywhere(t, structure(withDefault("a", x.s, v, x.ok[0])), false)
		}
	}
	// Values that are not valid for a reason that no rule of their schema names.
	checkAnywhere(t, structure(withDefault("a", listOf(0, 64, listOf(0, 64, whole(0, 0))), list(slices.Repeat([]api.Value{list(slices.Repeat([]api.Value{number(0)}, 64)...)}, 9)...))), true)
	checkAnywhere(t, structure(withDefault("a", listOf(0, 64, listOf(0, 64, whole(0, 0))), list(slices.Repeat([]api.Value{list(slices.Repeat([]api.Value{number(0)}, 64)...)}, 10)...))), false)
	checkAnywhere(t, structure(withDefault("a", dictionary(flag()), fields(field("b", truth(1)), field("a", truth(1))))), false)
	checkAnywhere(t, structure(withDefault("a", dictionary(flag()), fields(field("a b", truth(1))))), false)
	checkAnywhere(t, structure(withDefault("a", dictionary(flag()), fields(field("a", api.Value{N: 1})))), false)
	checkAnywhere(t, structure(withDefault("a", word(0, 200), text("é"))), false)
	checkAnywhere(t, structure(withDefault("a", flag(), truth(2))), false)
}

func deepList(levels int) api.Schema {
	s := flag()
	for range levels - 1 {
		s = listOf(0, 1, s)
	}
	return s
}

func deepDictionary(levels int) api.Schema {
	s := flag()
	for range levels - 1 {
		s = dictionary(s)
	}
	return s
}

func deepStructure(levels int) api.Schema {
	s := structure()
	for range levels - 1 {
		s = structure(plain("a", s))
	}
	return s
}

func TestValidDepth(t *testing.T) { // P7.1
	for levels := 1; levels <= 20; levels++ {
		for _, s := range []api.Schema{deepList(levels), deepDictionary(levels), deepStructure(levels)} {
			checkValid(t, s, levels <= 12)
			checkValid(t, listOf(0, 1, s), levels <= 11)
			checkValid(t, dictionary(s), levels <= 11)
			checkValid(t, structure(plain("a", s), plain("b", flag())), levels <= 11)
			checkValid(t, structure(plain("a", flag()), plain("b", s)), levels <= 11)
			checkValid(t, keyedList("k", entry(plain("n", s))), levels <= 10)
			checkValid(t, structure(plain("a", deepList(11)), plain("b", s), plain("c", deepList(3))), levels <= 11)
		}
	}
	// The default of a field counts by its own depth, from the field on.
	checkValid(t, structure(withDefault("a", deepList(11), list(list(list())))), true)
	checkValid(t, structure(withDefault("a", deepStructure(11), nestedEmpty(11))), true)
	checkValid(t, structure(withDefault("a", deepStructure(11), nestedEmpty(12))), false)
}

// nestedEmpty returns maps in one another, the innermost of which is empty.
func nestedEmpty(levels int) api.Value {
	v := fields()
	for range levels - 1 {
		v = fields(field("a", v))
	}
	return v
}

func TestValidOfAnything(t *testing.T) { // P1
	checkDeep := func(s api.Schema) {
		t.Helper()
		if Valid(s) || len(Changes(s, api.Value{}, api.Value{})) > 0 {
			t.Error("a deep schema is valid")
		}
		if l := Check(s, api.Value{}); !slices.Equal(l, faults("", api.ErrInvalid)) {
			t.Errorf("Check with a deep schema = %v", l)
		}
		if got, ok := At(s, nil); ok || !sameSchema(got, api.Schema{}) {
			t.Error("At finds a deep schema")
		}
	}
	checkDeep(deepList(1 << 16))
	checkDeep(deepDictionary(1 << 16))
	checkDeep(deepStructure(1 << 16))
	// A schema that is both deep and wide is done with at its first branch that is too deep.
	wide := flag()
	for range 1 << 10 {
		wide = structure(plain("a", wide), plain("b", wide), plain("c", wide))
	}
	checkDeep(wide)
	deep := nested(1 << 16)
	checkDeep(structure(withDefault("a", dictionary(flag()), deep)))
	if l := Check(dictionary(flag()), deep); !slices.Equal(l, faults("", api.ErrInvalid)) {
		t.Errorf("Check of a deep value = %v", l)
	}
	if l := Changes(dictionary(flag()), deep, deep); len(l) > 0 {
		t.Errorf("Changes of deep values = %v", l)
	}
	huge := api.Value{}
	for range 11 {
		huge = list(slices.Repeat([]api.Value{huge}, 64)...)
	}
	if l := Check(listOf(0, 64, flag()), huge); !slices.Equal(l, faults("", api.ErrInvalid)) {
		t.Errorf("Check of a huge value = %v", l)
	}
	if l := Changes(listOf(0, 64, flag()), huge, huge); len(l) > 0 {
		t.Errorf("Changes of huge values = %v", l)
	}
	checkDeep(structure(withDefault("a", listOf(0, 64, flag()), huge)))
}
