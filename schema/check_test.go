package schema

import (
	"math"
	"slices"
	"strconv"
	"strings"
	"testing"

	"orchestrator/api"
)

// faults returns errors: each is a path text and a code.
func faults(parts ...any) []api.FieldError {
	l := []api.FieldError{}
	for i := 0; i < len(parts); i += 2 {
		l = append(l, api.FieldError{Path: parts[i].(string), Code: parts[i+1].(api.Errno)})
	}
	return l
}

// checkErrors checks the answer of Check, and that it leaves its arguments.
func checkErrors(t *testing.T, s api.Schema, v api.Value, want ...any) {
	t.Helper()
	checkErrorList(t, s, v, faults(want...))
}

func checkErrorList(t *testing.T, s api.Schema, v api.Value, want []api.FieldError) {
	t.Helper()
	beforeS, beforeV := copiedSchema(s), copied(v)
	if got := Check(s, v); !slices.Equal(got, want) {
		t.Errorf("Check(%+v, %+v) = %v; want %v", s, v, got, want)
	}
	if !sameSchema(s, beforeS) || !same(v, beforeV) {
		t.Fatalf("Check changed %+v, %+v to %+v, %+v", beforeS, beforeV, s, v)
	}
}

// oneOfEach returns a valid value of each kind, by kind.
func oneOfEach() []api.Value {
	return []api.Value{{}, truth(1), number(1), text("x"), list(), fields()}
}

func TestCheckExamples(t *testing.T) { // P7.2
	s := structure(required("name", word(1, 10)))
	checkErrors(t, s, fields(), "name", api.ErrNotFound)
	checkErrors(t, s, fields(field("name", number(5))), "name", api.ErrType)
	checkErrors(t, s, fields(field("name", text("a")), field("x", number(1))), "x", api.ErrInvalid)
	ports := structure(plain("ports", keyedList("name", s)))
	web := fields(field("name", text("web")))
	checkErrors(t, ports, fields(field("ports", list(web, web))), `ports[name="web"]`, api.ErrExists)
}

func TestCheckOfInvalidArguments(t *testing.T) { // P7.2
	for _, s := range oddSchemas() {
		for _, v := range append(oneOfEach(), oddValues()...) {
			checkErrors(t, s, v, "", api.ErrInvalid)
		}
		checkErrors(t, structure(plain("a", flag()), required("b", s)), fields(), "", api.ErrInvalid)
	}
	for _, v := range oddValues() {
		for _, s := range []api.Schema{flag(), whole(1, 2), word(2, 3), listOf(1, 2, flag()), keyedList("k", entry()), dictionary(flag()), structure(), structure(required("a", flag()))} {
			checkErrors(t, s, v, "", api.ErrInvalid)
			checkErrors(t, s, list(v), "", api.ErrInvalid)
			checkErrors(t, s, fields(field("a", v)), "", api.ErrInvalid)
			checkErrors(t, s, fields(field("a", truth(1)), field("b", list(v))), "", api.ErrInvalid)
		}
	}
}

func TestCheckKinds(t *testing.T) { // P7.2
	schemas := map[int]api.Schema{api.VBool: flag(), api.VInt: whole(5, 9), api.VString: word(5, 9, "abcde"), api.VList: listOf(5, 9, flag()), api.VMap: structure(required("z", flag()))}
	for kind, s := range schemas {
		for _, v := range append(oneOfEach(), list(number(1)), fields(field("x", number(1)))) {
			if v.Kind == kind {
				continue
			}
			checkErrors(t, s, v, "", api.ErrType)
			checkErrors(t, listOf(0, 9, s), list(v), "[0]", api.ErrType)
			if v.Kind != api.VNull {
				checkErrors(t, structure(plain("a", s)), fields(field("a", v)), "a", api.ErrType)
				checkErrors(t, dictionary(s), fields(field("b", v)), "b", api.ErrType)
			}
		}
	}
	for _, v := range oneOfEach() {
		if v.Kind != api.VMap {
			checkErrors(t, dictionary(flag()), v, "", api.ErrType)
			checkErrors(t, structure(), v, "", api.ErrType)
		}
	}
	checkErrors(t, flag(), truth(0))
	checkErrors(t, flag(), truth(1))
}

func TestCheckIntegers(t *testing.T) { // P7.2
	for _, limits := range [][2]int{{0, 0}, {-3, 7}, {5, 5}, {-9, -2}, {-api.MaxNumber, api.MaxNumber}} {
		for _, n := range []int{-api.MaxNumber, -10, -9, -8, -4, -3, -2, -1, 0, 1, 4, 5, 6, 7, 8, api.MaxNumber - 1, api.MaxNumber} {
			if limits[0] <= n && n <= limits[1] {
				checkErrors(t, whole(limits[0], limits[1]), number(n))
			} else {
				checkErrors(t, whole(limits[0], limits[1]), number(n), "", api.ErrRange)
			}
		}
	}
	checkErrors(t, whole(-api.MaxNumber, api.MaxNumber), number(api.MaxNumber+1), "", api.ErrInvalid)
	checkErrors(t, whole(-api.MaxNumber, api.MaxNumber), number(math.MaxInt), "", api.ErrInvalid)
}

func TestCheckStrings(t *testing.T) { // P7.2
	for n := range 201 {
		if 2 <= n && n <= 198 {
			checkErrors(t, word(2, 198), text(letters(n)))
		} else {
			checkErrors(t, word(2, 198), text(letters(n)), "", api.ErrRange)
		}
	}
	checkErrors(t, word(0, 0), text(""))
	checkErrors(t, word(0, 0), text("a"), "", api.ErrRange)
	checkErrors(t, word(0, 200), text(letters(200)))
	enum := word(2, 4, "AA", "aa", "aaa", "b\n", "bbbb")
	for _, s := range enum.Enum {
		checkErrors(t, enum, text(s))
	}
	for _, s := range []string{"ab", "Aa", "aA", "aaaa", "b ", "bb", "bbb", "zz"} {
		checkErrors(t, enum, text(s), "", api.ErrInvalid)
	}
	// What is too short or too long is told as that, and as nothing else.
	for _, s := range []string{"", "a", "A", "aaaaa", "bbbbb"} {
		checkErrors(t, enum, text(s), "", api.ErrRange)
	}
	all := word(0, 10, words(64)...)
	for _, s := range all.Enum {
		checkErrors(t, all, text(s))
		checkErrors(t, all, text(s+"a"), "", api.ErrInvalid)
	}
	checkErrors(t, word(0, 5, ""), text(""))
	checkErrors(t, word(0, 5, ""), text("a"), "", api.ErrInvalid)
}

func TestCheckLists(t *testing.T) { // P7.2
	s := listOf(2, 4, whole(1, 5))
	for n := range 65 {
		v := list(slices.Repeat([]api.Value{number(3)}, n)...)
		if 2 <= n && n <= 4 {
			checkErrors(t, s, v)
		} else {
			checkErrors(t, s, v, "", api.ErrRange)
		}
	}
	checkErrors(t, s, list(number(0), number(5), text("x"), api.Value{}), "[0]", api.ErrRange, "[2]", api.ErrType, "[3]", api.ErrType)
	checkErrors(t, s, list(number(6)), "", api.ErrRange, "[0]", api.ErrRange)
	checkErrors(t, listOf(0, 64, flag()), many(64), manyFaults(64)...)
	checkErrors(t, listOf(0, 0, flag()), list())
	checkErrors(t, listOf(0, 0, flag()), list(truth(1)), "", api.ErrRange)
	deep := listOf(0, 2, listOf(1, 2, whole(1, 5)))
	checkErrors(t, deep, list(list(), list(number(9)), list(number(1), number(0), number(2))), "", api.ErrRange, "[0]", api.ErrRange, "[1][0]", api.ErrRange, "[2]", api.ErrRange, "[2][1]", api.ErrRange)
	// Elements may be the same where there is no key, whatever they are.
	one := fields(field("k", text("x")))
	checkErrors(t, listOf(0, 9, entry()), list(one, one, one))
	checkErrors(t, listOf(0, 9, entry()), list(one, fields(field("k", number(1)))), "[1].k", api.ErrType)
}

// manyFaults returns that each of n elements has another kind.
func manyFaults(n int) []any {
	l := []any{}
	for i := range n {
		l = append(l, "["+strconv.Itoa(i)+"]", api.ErrType)
	}
	return l
}

// keyed returns a map with the fields k and n.
func keyed(k string, n int) api.Value { return fields(field("k", text(k)), field("n", number(n))) }

func TestCheckKeyedLists(t *testing.T) { // P7.2
	s := keyedList("k", entry(plain("n", whole(1, 5))))
	checkErrors(t, s, list())
	checkErrors(t, s, list(keyed("x", 1), keyed("y", 1), keyed("", 1), keyed("X", 1)))
	checkErrors(t, s, list(keyed("x", 1), keyed("x", 2)), `[k="x"]`, api.ErrExists)
	checkErrors(t, s, list(keyed("", 1), keyed("", 1)), `[k=""]`, api.ErrExists)
	checkErrors(t, s, list(keyed("x", 1), keyed("y", 1), keyed("x", 1), keyed("x", 1), keyed("y", 1)), `[k="x"]`, api.ErrExists, `[k="x"]`, api.ErrExists, `[k="y"]`, api.ErrExists)
	// The errors of an element come before the one for its key.
	checkErrors(t, s, list(keyed("x", 0), keyed("y", 9), keyed("x", 9), keyed("y", 1)), `[k="x"].n`, api.ErrRange, `[k="y"].n`, api.ErrRange, `[k="x"].n`, api.ErrRange, `[k="x"]`, api.ErrExists, `[k="y"]`, api.ErrExists)
	// The first of two may have errors, and the key may be no valid one: it is the same string all the same.
	long := strings.Repeat("\"", 10)
	text10 := `[k="` + strings.Repeat(`\"`, 10) + `"]`
	checkErrors(t, s, list(keyed(long, 1), keyed(long, 1)), text10+".k", api.ErrRange, text10+".k", api.ErrRange, text10, api.ErrExists)
	checkErrors(t, s, list(keyed("a\n\"\\ ]", 0)), `[k="a\n\"\\ ]"].n`, api.ErrRange)
	// Elements without a string in the key field go by their index, and are the same as no other.
	checkErrors(t, s, list(fields(), fields(), fields(field("n", number(9)))), "[0].k", api.ErrNotFound, "[1].k", api.ErrNotFound, "[2].n", api.ErrRange, "[2].k", api.ErrNotFound)
	none := fields(field("k", api.Value{}), field("n", number(0)))
	checkErrors(t, s, list(keyed("x", 1), none, none), "[1].n", api.ErrRange, "[1].k", api.ErrNotFound, "[2].n", api.ErrRange, "[2].k", api.ErrNotFound)
	other := fields(field("k", number(1)))
	checkErrors(t, s, list(other, other, keyed("x", 1)), "[0].k", api.ErrType, "[1].k", api.ErrType)
	inner := fields(field("k", list(text("x"))))
	checkErrors(t, s, list(inner, inner, fields(field("k", fields(field("k", text("x")))))), "[0].k", api.ErrType, "[1].k", api.ErrType, "[2].k", api.ErrType)
	checkErrors(t, s, list(text("x"), text("x"), api.Value{}, number(1), list(text("x")), keyed("x", 1)), "[0]", api.ErrType, "[1]", api.ErrType, "[2]", api.ErrType, "[3]", api.ErrType, "[4]", api.ErrType)
	// The empty key is another one than none.
	checkErrors(t, s, list(fields(), keyed("", 1), fields(field("k", truth(0)))), "[0].k", api.ErrNotFound, "[2].k", api.ErrType)
	// Another field than the key may be the same, and unknown fields do not matter.
	named := keyedList("n", structure(plain("k", word(0, 9)), required("n", word(0, 9))))
	two := func(k, n string) api.Value { return fields(field("k", text(k)), field("n", text(n))) }
	checkErrors(t, named, list(two("x", "x"), two("x", "y"), two("y", "x")), `[n="x"]`, api.ErrExists)
	more := fields(field("k", text("x")), field("z", truth(1)))
	checkErrors(t, s, list(keyed("x", 1), more), `[k="x"].z`, api.ErrInvalid, `[k="x"]`, api.ErrExists)
	short := listOf(1, 2, entry())
	short.Key = "k"
	checkErrors(t, short, list(), "", api.ErrRange)
	checkErrors(t, short, list(keyed("x", 1), keyed("x", 1), keyed("y", 1)), "", api.ErrRange, `[k="x"].n`, api.ErrInvalid, `[k="x"].n`, api.ErrInvalid, `[k="x"]`, api.ErrExists, `[k="y"].n`, api.ErrInvalid)
}

func TestCheckDictionaries(t *testing.T) { // P7.2
	s := dictionary(whole(1, 5))
	checkErrors(t, s, fields())
	checkErrors(t, s, fields(field("a", number(1)), field("b", number(5)), field("-_/", number(3))), "", api.ErrInvalid)
	checkErrors(t, s, fields(field("-_/", number(3)), field("a", number(1)), field("b", number(5))))
	checkErrors(t, s, fields(field("a", api.Value{}), field("b", number(9)), field("c", api.Value{}), field("d", text("x")), field("e", number(2))), "b", api.ErrRange, "d", api.ErrType)
	deep := dictionary(dictionary(structure(required("z", flag()))))
	checkErrors(t, deep, fields(field("a", fields()), field("b", fields(field("c", fields()), field("d", api.Value{}))), field("e", api.Value{})), "b.c.z", api.ErrNotFound)
	all := fields()
	for _, one := range words(64) {
		all.Fields = append(all.Fields, field(one, api.Value{}))
	}
	checkErrors(t, s, all)
	checkErrors(t, dictionary(dictionary(s)), all)
}

func TestCheckStructures(t *testing.T) { // P7.2
	s := structure(plain("a", whole(1, 5)), required("b", flag()), plain("d", word(1, 3)), required("e", listOf(1, 1, flag())))
	ok := list(truth(1))
	checkErrors(t, s, fields(field("b", truth(0)), field("e", ok)))
	checkErrors(t, s, fields(field("a", number(1)), field("b", truth(0)), field("d", text("x")), field("e", ok)))
	checkErrors(t, s, fields(), "b", api.ErrNotFound, "e", api.ErrNotFound)
	checkErrors(t, s, fields(field("e", ok)), "b", api.ErrNotFound)
	checkErrors(t, s, fields(field("b", truth(1))), "e", api.ErrNotFound)
	// Null is as if the field were not there, where the schema has the field.
	checkErrors(t, s, fields(field("a", api.Value{}), field("b", truth(0)), field("d", api.Value{}), field("e", ok)))
	checkErrors(t, s, fields(field("b", api.Value{}), field("e", api.Value{})), "b", api.ErrNotFound, "e", api.ErrNotFound)
	checkErrors(t, s, fields(field("b", api.Value{}), field("c", api.Value{}), field("e", ok)), "c", api.ErrInvalid, "b", api.ErrNotFound)
	// First the fields of the value in their order, then those that are missing.
	checkErrors(t, s, fields(field("A", number(1)), field("a", number(9)), field("c", number(1)), field("d", text("")), field("e", list(text("x"), truth(1))), field("f", fields())),
		"A", api.ErrInvalid, "a", api.ErrRange, "c", api.ErrInvalid, "d", api.ErrRange, "e", api.ErrRange, "e[0]", api.ErrType, "f", api.ErrInvalid, "b", api.ErrNotFound)
	// A field of another kind is not missing.
	checkErrors(t, s, fields(field("b", number(1)), field("e", fields())), "b", api.ErrType, "e", api.ErrType)
	checkErrors(t, structure(), fields())
	checkErrors(t, structure(), fields(field("a", api.Value{}), field("b", number(1))), "a", api.ErrInvalid, "b", api.ErrInvalid)
	// What an unknown field holds is not gone into.
	checkErrors(t, structure(), fields(field("a", fields(field("b", fields())))), "a", api.ErrInvalid)
	// A default does not stand in for a required field, and Immutable does not matter.
	filled := structure(api.SchemaField{Name: "a", Required: true, Immutable: true, Default: []api.Value{truth(1)}, S: flag()}, fixed("b", flag()))
	checkErrors(t, filled, fields(), "a", api.ErrNotFound)
	checkErrors(t, filled, fields(field("a", truth(0))))
	checkErrors(t, filled, fields(field("a", truth(0)), field("b", number(0))), "b", api.ErrType)
}

func TestCheckPaths(t *testing.T) { // P7.2
	leaf := structure(required("z", whole(1, 5)))
	bad := fields(field("y", truth(1)))
	s := structure(
		plain("dict", dictionary(listOf(0, 9, leaf))),
		plain("keys", keyedList("k", entry(plain("l", listOf(0, 9, keyedList("k", entry(plain("n", leaf)))))))),
		plain("list", listOf(0, 9, listOf(0, 9, leaf))),
	)
	inner := list(fields(field("k", text("b")), field("n", bad)), fields(field("k", text("c")), field("n", bad)), fields(field("n", bad)))
	v := fields(
		field("dict", fields(field("a/b", list(fields(field("z", number(1))), bad)))),
		field("keys", list(fields(field("k", text("a")), field("l", list(list(), inner))), fields(field("l", list(inner))))),
		field("list", list(list(), list(bad))),
	)
	checkErrors(t, s, v,
		"dict.a/b[1].y", api.ErrInvalid, "dict.a/b[1].z", api.ErrNotFound,
		`keys[k="a"].l[1][k="b"].n.y`, api.ErrInvalid, `keys[k="a"].l[1][k="b"].n.z`, api.ErrNotFound,
		`keys[k="a"].l[1][k="c"].n.y`, api.ErrInvalid, `keys[k="a"].l[1][k="c"].n.z`, api.ErrNotFound,
		`keys[k="a"].l[1][2].n.y`, api.ErrInvalid, `keys[k="a"].l[1][2].n.z`, api.ErrNotFound, `keys[k="a"].l[1][2].k`, api.ErrNotFound,
		`keys[1].l[0][k="b"].n.y`, api.ErrInvalid, `keys[1].l[0][k="b"].n.z`, api.ErrNotFound,
		`keys[1].l[0][k="c"].n.y`, api.ErrInvalid, `keys[1].l[0][k="c"].n.z`, api.ErrNotFound,
		`keys[1].l[0][2].n.y`, api.ErrInvalid, `keys[1].l[0][2].n.z`, api.ErrNotFound, `keys[1].l[0][2].k`, api.ErrNotFound,
		"keys[1].k", api.ErrNotFound,
		"list[1][0].y", api.ErrInvalid, "list[1][0].z", api.ErrNotFound,
	)
}

func TestCheckAtTheLimits(t *testing.T) { // P7.2
	// The deepest value, and the longest path: a field that is missing at the deepest level.
	s := structure(required("z", flag()))
	for range 10 {
		s = structure(plain("a", s))
	}
	v := nestedEmpty(11)
	checkErrors(t, s, v, strings.Repeat("a.", 10)+"z", api.ErrNotFound)
	deep := deepStructure(12)
	checkErrors(t, deep, nestedEmpty(12))
	checkErrors(t, deep, nestedEmpty(13), "", api.ErrInvalid)
	checkErrors(t, deep, nested(12))
	checkErrors(t, deepDictionary(12), nestedEmpty(12), strings.Repeat("a.", 10)+"a", api.ErrType)
	checkErrors(t, deepDictionary(11), nestedEmpty(12), strings.Repeat("a.", 9)+"a", api.ErrType)
	// The longest texts of keys.
	key, name := strings.Repeat("\"", 200), letters(40)
	items := keyedList(name, structure(required(name, word(0, 200)), plain("b", flag())))
	checkErrors(t, items, list(fields(field(name, text(key)), field("b", number(1)))), "["+name+"=\""+strings.Repeat(`\"`, 200)+"\"].b", api.ErrType)
	// As many errors as the largest value can have.
	wide := structure()
	for _, one := range words(64) {
		wide.Fields = append(wide.Fields, required(one, flag()))
	}
	all := list(slices.Repeat([]api.Value{list(slices.Repeat([]api.Value{fields()}, 64)...)}, 9)...)
	if l := Check(listOf(0, 64, listOf(0, 64, wide)), all); len(l) != 9*64*64 || l[len(l)-1].Path != "[8][63].w163" {
		t.Errorf("there are %d errors", len(l))
	}
}
