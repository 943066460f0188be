package apply

import (
	"fmt"
	"math"
	"slices"
	"strings"
	"testing"

	"orchestrator/api"
	"orchestrator/schema"
	"orchestrator/value"
)

// nested returns maps in one another, with the given number of levels.
func nested(levels int) api.Value {
	v := null()
	for range levels - 1 {
		v = dict(field("a", v))
	}
	return v
}

// many returns a list of n nulls.
func many(n int) api.Value { return list(make([]api.Value, n)...) }

// oddValues are values that are not valid, each for one reason.
func oddValues() []api.Value {
	crowd := list(append(slices.Repeat([]api.Value{many(64)}, 9), many(14))...)
	return []api.Value{
		{Kind: -1}, {Kind: 6}, {Kind: math.MaxInt}, {N: 1}, {S: "a"}, {List: []api.Value{{}}}, {Fields: []api.Field{field("a", null())}},
		truth(2), truth(-1), number(api.MaxNumber + 1), number(math.MinInt), text("\x00"), text("é"), text(letters(201)), {Kind: api.VString, S: "x", N: 1},
		many(65), {Kind: api.VList, N: 1}, {Kind: api.VMap, S: "a"}, dict(field("", number(1))), dict(field("a b", number(1))), dict(field(letters(41), number(1))),
		dict(field("b", number(1)), field("a", number(1))), dict(field("a", number(1)), field("a", number(1))), nested(13), crowd,
		list(keyed("é")), list(keyed("x"), keyed(letters(201))), list(dict(field("k", api.Value{Kind: api.VString, S: "x", N: 1}))),
	}
}

// oddSchemas are schemas that are not valid, each for one reason.
func oddSchemas() []api.Schema {
	lacking, deep := keyedList(), flag()
	lacking.Items[0].Fields[0].Required = false
	for range 12 {
		deep = dictionary(deep)
	}
	return []api.Schema{
		{}, {Kind: -1}, {Kind: 6}, {Kind: math.MaxInt}, {Kind: math.MinInt}, {Max: 5}, {Items: []api.Schema{flag()}},
		{Kind: api.VBool, Max: 1}, {Kind: api.VInt, Min: 2, Max: 1}, {Kind: api.VString, Max: 201}, {Kind: api.VString, Max: 9, Enum: set("b", "a")}, {Kind: api.VMap, Max: 1}, {Kind: api.VMap, Key: "a"},
		listOf(), listOf(flag(), flag()), lacking, {Kind: api.VList, Max: 9, Key: "k", Items: []api.Schema{flag()}}, {Kind: api.VList, Max: 9, Key: "k", Items: []api.Schema{dictionary(word())}}, {Kind: api.VList, Max: 9, Key: "a", Items: keyedList().Items},
		dictionary(flag(), flag()), {Kind: api.VMap, Items: []api.Schema{flag()}, Fields: []api.SchemaField{plain("a", flag())}}, structure(plain("b", flag()), plain("a", flag())), structure(plain("a", flag()), plain("a", flag())), structure(plain("", flag())),
		structure(api.SchemaField{Name: "a", S: flag(), Default: []api.Value{number(1)}}), structure(api.SchemaField{Name: "a", S: flag(), Default: []api.Value{truth(1), truth(1)}}), deep,
	}
}

// oddManagers are lists of managers that are not valid, each for one reason.
func oddManagers() [][]api.Manager {
	return [][]api.Manager{
		own(set("b", "x"), set("a", "x")), own(set("a", "x"), set("a", "y")), own(set("a", "x"), set("c", "x"), set("b", "x")), own(set("a", "x"), set("A", "x")),
		own(set("", "x")), own(set(letters(41), "x")), own(set("a", "x"), set(letters(41), "x")),
		own(set("a")), own(set("a", "x"), set("b"), set("c", "x")), own(set("a", "x"), set("b", "x"), set("c")),
		own(set("a", "y", "x")), own(set("a", "x", "x")), own(set("a", "", "")), own(set("a", "x"), set("b", "a", "b", "c", "b")), own(set("a", "a", "A")),
		crowd(17, "x"),
	}
}

// soundManagers are valid lists of managers at the edges.
func soundManagers() [][]api.Manager {
	long := make([]string, 3000)
	for i := range long {
		long[i] = fmt.Sprint("n", 10000+i)
	}
	return [][]api.Manager{
		nil, {}, own(set("a", "x")), own(set(" ", "")), own(set("\x00", "\xff")), own(set(letters(40), strings.Repeat("x", 50000))), crowd(16, "x"),
		own(set("A", "x"), set("a", "x"), set("aa", "x"), set("b", "x"), set("é", "x")), own(append(set("long"), long...)), own(set("a", "", "\x00", " ", "!!", "..", "A", "a", "a.", "a[", "é", "\xff")),
	}
}

// checkRefused checks that nothing is applied or updated.
func checkRefused(t *testing.T, s api.Schema, live api.Value, m []api.Manager, name string, config api.Value) {
	t.Helper()
	check(t, call{s, live, m, name, config, false}, bad(api.ErrInvalid))
	check(t, call{s, live, m, name, config, true}, bad(api.ErrInvalid))
	checkManagers(t, s, live, config, m, name, m)
}

// checkMisfit checks that v is refused as the value that is there and as the value that comes.
func checkMisfit(t *testing.T, s api.Schema, v api.Value) {
	t.Helper()
	m := own(set("me", "a", "b"), set("z", "a"))
	for _, name := range []string{"me", "new"} {
		checkRefused(t, s, v, m, name, dict())
		checkRefused(t, s, dict(), m, name, v)
	}
	checkRefused(t, s, v, m, "me", v)
}

// checkFit checks that v is taken as it is, but for what pruning takes away.
func checkFit(t *testing.T, s api.Schema, v, pruned api.Value) {
	t.Helper()
	check(t, call{s, v, nil, "me", dict(), false}, answer{v: pruned})
	check(t, call{s, v, own(set("z", "z")), "me", v, false}, answer{v: pruned, m: mine(s, pruned, api.Manager{Name: "z", Fields: set("z")})})
	check(t, call{s, dict(), nil, "me", v, false}, answer{v: pruned, m: mine(s, pruned)})
	checkManagers(t, s, dict(), v, nil, "me", mine(s, pruned))
	checkManagers(t, s, v, dict(), own(set("me", "a", "z")), "me", nil)
}

// mine puts the manager me, who owns all leaves of v, in front of others.
func mine(s api.Schema, v api.Value, others ...api.Manager) []api.Manager {
	if leaves := leavesOf(s, v); len(leaves) > 0 {
		return append([]api.Manager{{Name: "me", Fields: leaves}}, others...)
	}
	return others
}

func TestNames(t *testing.T) { // P11.1, P11.2
	v := ab(1, -1, -1)
	for _, m := range [][]api.Manager{nil, own(set("a", "b"))} {
		for _, name := range []string{"", letters(41), letters(1000), strings.Repeat("é", 21)} {
			checkRefused(t, abc(), dict(), m, name, v)
			checkRefused(t, abc(), dict(), m, name, dict())
		}
		for _, name := range []string{"b", letters(40), strings.Repeat("é", 20), "\x00\xff", " ", "B b"} {
			want := append(slices.Clone(m), api.Manager{Name: name, Fields: set("a")})
			slices.SortFunc(want, func(a, b api.Manager) int { return strings.Compare(a.Name, b.Name) })
			check(t, call{abc(), dict(), m, name, v, false}, answer{v: v, m: want})
			checkManagers(t, abc(), dict(), v, m, name, own(set(name, "a")))
		}
	}
}

func TestManagersThatAreNotValid(t *testing.T) { // P11.1, P11.2
	for _, m := range oddManagers() {
		for _, name := range []string{"a", "b", "n", "z"} {
			checkRefused(t, abc(), ab(1, -1, -1), m, name, ab(-1, 2, -1))
			checkRefused(t, abc(), dict(), m, name, dict())
			checkRefused(t, abc(), ab(1, 2, 3), m, name, ab(3, 2, 1))
		}
	}
	for _, m := range soundManagers() {
		check(t, call{abc(), ab(1, 2, -1), m, "none", dict(), false}, answer{v: ab(1, 2, -1), m: m})
		if len(m) < 16 {
			want := append(slices.Clone(m), api.Manager{Name: "n", Fields: set("c")})
			slices.SortFunc(want, func(a, b api.Manager) int { return strings.Compare(a.Name, b.Name) })
			check(t, call{abc(), ab(1, 2, -1), m, "n", ab(-1, -1, 3), false}, answer{v: ab(1, 2, 3), m: want})
		}
		// None of the texts is a leaf of these values.
		checkManagers(t, dictionary(whole()), dict(), dict(field("none", number(1))), m, "n", own(set("n", "none")))
	}
}

func TestSchemasAndValuesThatAreNotValid(t *testing.T) { // P11.1, P11.2
	for _, s := range oddSchemas() {
		if schema.Valid(s) {
			t.Fatalf("%+v is valid", s)
		}
		// It need not be a schema that a value reaches.
		for _, above := range []api.Schema{s, structure(plain("a", whole()), plain("z", s)), structure(plain("a", structure(plain("z", s)))), dictionary(s), structure(plain("p", keyedList(plain("z", s))))} {
			checkMisfit(t, above, dict())
			checkMisfit(t, above, dict(field("a", number(1))))
		}
	}
	for _, v := range oddValues() {
		if value.Valid(v) {
			t.Fatalf("%+v is not valid", v)
		}
		checkMisfit(t, several(), v)
		for _, s := range []api.Schema{flag(), whole(), word(), listOf(whole()), keyedList(), structure(), dictionary(whole())} {
			checkMisfit(t, s, v)
			checkMisfit(t, dictionary(s), dict(field("a", v)))
			checkMisfit(t, structure(plain("a", s)), dict(field("a", v)))
			checkMisfit(t, structure(plain("a", listOf(s))), dict(field("a", list(v))))
		}
	}
}

func TestValuesThatAreNoMaps(t *testing.T) { // P11.1, P11.2
	for _, c := range []struct {
		s api.Schema
		v api.Value
	}{{flag(), truth(1)}, {whole(), number(1)}, {word(), text("x")}, {listOf(whole()), list()}, {listOf(whole()), list(number(1))}, {keyedList(), list(keyed("x"))}, {keyedList(), list()}, {whole(), null()}} {
		if len(schema.Check(c.s, c.v)) > 0 && c.v.Kind != api.VNull {
			t.Fatalf("%+v does not suit %+v", c.v, c.s)
		}
		checkMisfit(t, c.s, c.v)
		checkRefused(t, c.s, c.v, nil, "me", c.v)
		checkMisfit(t, several(), c.v)
		checkRefused(t, c.s, dict(), nil, "me", dict())
	}
}

func TestValuesThatDoNotFit(t *testing.T) { // P11.1, P11.2
	s := several()
	in := func(l ...api.Value) api.Value { return dict(field("p", list(l...))) }
	for _, v := range []api.Value{
		dict(field("a", text("x"))), dict(field("a", number(10))), dict(field("a", number(-1))), dict(field("c", text("longer than nine"))), dict(field("q", number(1))), dict(field("q", null())), dict(field("A", number(1))),
		dict(field("d", dict(field("x", number(1))))), dict(field("d", dict(field("x", dict(field("y", dict())))))), dict(field("d", list())), dict(field("e", dict(field("z", number(1))))), dict(field("e", list())), dict(field("e", dict(field("r", text("x"))))),
		dict(field("l", dict())), dict(field("l", list(null()))), dict(field("l", list(number(1), text("x")))), dict(field("m", list(list()))), dict(field("m", list(dict(field("z", null()))))),
		in(null()), in(number(1)), in(keyed("x", field("z", number(1)))), in(keyed("x"), keyed("y"), keyed("x")), in(keyed("longer than nine")), in(keyed("x", field("n", text("x")))),
		in(keyed("x", field("q", list(keyed("x"), keyed("x"))))), dict(field("m", list(dict(field("y", list(keyed("x"), keyed("x"))))))),
		// Elements without a string in the key field: their other errors, if any, are those of a required field that is missing.
		in(dict()), in(dict(field("k", null()))), in(dict(field("k", number(1)))), in(dict(field("n", number(1)))), in(keyed("x"), dict(field("k", null())), keyed("y")), in(keyed("x"), dict(field("n", number(1)))), in(keyed("x", field("q", list(dict())))), in(keyed("x", field("q", list(keyed("x"), dict(field("k", null())))))),
		dict(field("m", list(dict(field("y", list(dict())))))), dict(field("m", list(dict(), dict(field("y", list(keyed("x"), dict(field("k", null())))))))),
	} {
		checkMisfit(t, s, v)
		checkMisfit(t, dictionary(s), dict(field("x", dict()), field("y", v)))
		checkMisfit(t, structure(plain("a", s)), dict(field("a", v)))
		checkMisfit(t, structure(plain("a", listOf(s))), dict(field("a", list(dict(), v))))
	}
	short := structure(plain("a", api.Schema{Kind: api.VList, Min: 1, Max: 2, Items: []api.Schema{whole()}}), plain("b", api.Schema{Kind: api.VString, Max: 3, Enum: set("x", "yy")}))
	for _, v := range []api.Value{dict(field("a", list())), dict(field("a", list(number(1), number(2), number(3)))), dict(field("b", text("z"))), dict(field("b", text("")))} {
		checkMisfit(t, short, v)
	}
}

func TestValuesThatFit(t *testing.T) { // P11.1, P11.2
	s := several()
	in := func(l ...api.Value) api.Value { return dict(field("p", list(l...))) }
	for _, v := range []api.Value{
		dict(), ab(0, 9, -1), dict(field("e", dict())), dict(field("e", dict(field("x", number(1))))), dict(field("d", dict(field("x", dict())))), dict(field("l", list(number(1), number(1)))),
		dict(field("m", list())), dict(field("m", list(dict(), dict(), dict(field("y", list()))))), in(), in(keyed("")), in(keyed("y"), keyed("x", field("q", list(keyed("x"), keyed("y"))), field("s", dict()))),
	} {
		checkFit(t, s, v, v)
	}
	// Nulls and required fields that are missing.
	needy := structure(needed("a", whole()), needed("b", structure(needed("c", whole()))), plain("p", keyedList(needed("n", whole()))))
	for _, c := range []struct{ v, pruned api.Value }{
		{dict(field("a", null())), dict()}, {dict(field("b", null())), dict()}, {dict(field("b", dict())), dict(field("b", dict()))}, {dict(field("b", dict(field("c", null())))), dict(field("b", dict()))},
		{in(keyed("x")), in(keyed("x"))}, {in(keyed("x", field("n", null()))), in(keyed("x"))}, {dict(field("p", null())), dict()},
	} {
		checkFit(t, needy, c.v, c.pruned)
		checkFit(t, dictionary(needy), dict(field("a", c.v), field("b", null())), dict(field("a", c.pruned)))
		checkFit(t, structure(needed("a", listOf(needy))), dict(field("a", list(c.v, c.v))), dict(field("a", list(c.pruned, c.pruned))))
	}
	checkMisfit(t, needy, in(dict(field("n", number(1)))))
	checkMisfit(t, needy, in(dict(field("k", null()), field("n", number(1)))))
	checkFit(t, structure(), dict(), dict())
	checkFit(t, dictionary(whole()), dict(), dict())
}

func TestResultsThatAreTooLong(t *testing.T) { // P11.1
	names := func(from, to int) api.Value {
		v := dict()
		for i := from; i < to; i++ {
			v.Fields = append(v.Fields, field(fmt.Sprint("n", 100+i), number(1)))
		}
		return v
	}
	elements := func(from, to int) api.Value {
		l := list()
		for i := from; i < to; i++ {
			l.List = append(l.List, keyed(fmt.Sprint("n", 100+i)))
		}
		return dict(field("p", l))
	}
	for _, c := range []struct {
		s    api.Schema
		part func(from, to int) api.Value
	}{{dictionary(whole()), names}, {structure(plain("p", keyedList())), elements}} {
		all := c.part(0, 64)
		check(t, call{c.s, c.part(0, 40), nil, "me", c.part(30, 64), false}, answer{v: all, m: mine(c.s, c.part(30, 64))})
		check(t, call{c.s, c.part(0, 40), nil, "me", c.part(30, 65), false}, bad(api.ErrTooLong))
		check(t, call{c.s, c.part(0, 40), nil, "me", c.part(40, 65), true}, bad(api.ErrTooLong))
		check(t, call{c.s, all, nil, "me", c.part(64, 65), false}, bad(api.ErrTooLong))
		check(t, call{c.s, all, mine(c.s, c.part(7, 8)), "me", c.part(64, 65), false}, answer{v: without(c.part(0, 65), 7), m: mine(c.s, c.part(64, 65))})
	}
	// The size as a whole.
	wide := func(lists, last int, name string) api.Value {
		v := dict()
		for i := range lists {
			v.Fields = append(v.Fields, field(fmt.Sprint(name, i), list(slices.Repeat([]api.Value{number(1)}, 59)...)))
		}
		return dict(append(v.Fields, field(name+"z", list(slices.Repeat([]api.Value{number(1)}, last)...)))...)
	}
	s := dictionary(listOf(whole()))
	live, config := wide(4, 20, "a"), wide(5, 37, "b")
	both := dict(slices.Concat(live.Fields, config.Fields)...)
	if value.Size(both) != api.MaxValues {
		t.Fatalf("the size is %d", value.Size(both))
	}
	check(t, call{s, live, nil, "me", config, false}, answer{v: both, m: mine(s, config)})
	check(t, call{s, live, nil, "me", wide(5, 38, "b"), false}, bad(api.ErrTooLong))
	// A list that takes the place of another one counts once.
	check(t, call{s, both, nil, "me", wide(4, 19, "a"), false}, answer{v: dict(slices.Concat(wide(4, 19, "a").Fields, config.Fields)...), m: mine(s, wide(4, 19, "a"))})
	check(t, call{s, both, nil, "me", wide(4, 21, "a"), false}, bad(api.ErrTooLong))
}

// without returns v without the name or the element of number i.
func without(v api.Value, i int) api.Value {
	if len(v.Fields) == 1 {
		return dict(field("p", list(slices.Delete(v.Fields[0].V.List, i, i+1)...)))
	}
	return dict(slices.Delete(v.Fields, i, i+1)...)
}

func TestResultsThatDoNotFit(t *testing.T) { // P11.1, P11.4
	// A valid result stands, even if the schema has something against it; nothing can be applied to it then.
	in := func(l ...api.Value) api.Value { return dict(field("p", list(l...))) }
	few := keyedList()
	few.Min, few.Max = 1, 2
	s := structure(plain("p", few))
	x := `p[k="x"].k`
	check(t, call{s, in(keyed("x"), keyed("y")), nil, "me", in(keyed("z")), false}, good(in(keyed("x"), keyed("y"), keyed("z")), set("me", `p[k="z"].k`)))
	checkRefused(t, s, in(keyed("x"), keyed("y"), keyed("z")), own(set("me", `p[k="z"].k`)), "me", in(keyed("z")))
	check(t, call{s, in(keyed("x"), keyed("y")), own(set("me", x)), "me", in(keyed("z")), false}, good(in(keyed("y"), keyed("z")), set("me", `p[k="z"].k`)))
	check(t, call{s, in(keyed("x")), own(set("me", x)), "me", dict(), false}, good(dict()))
	pair := keyedList()
	pair.Min = 2
	check(t, call{structure(plain("p", pair)), in(keyed("x"), keyed("y")), own(set("me", x)), "me", dict(), false}, good(in(keyed("y"))))
	needy := structure(needed("a", whole()), plain("b", whole()))
	check(t, call{needy, ab(1, 2, -1), own(set("me", "a")), "me", dict(), false}, good(ab(-1, 2, -1)))
	check(t, call{needy, ab(-1, 2, -1), nil, "me", dict(), false}, good(ab(-1, 2, -1)))
	wide := api.Schema{Kind: api.VMap, Fields: []api.SchemaField{plain("p", few)}}
	check(t, call{wide, dict(), nil, "me", in(keyed("x"), keyed("y")), false}, good(in(keyed("x"), keyed("y")), set("me", x, `p[k="y"].k`)))
}

func TestAtTheLimits(t *testing.T) { // P11.1, P11.2
	// Twelve levels, the deepest that are valid.
	s, v, w := whole(), number(1), number(2)
	for range 11 {
		s, v, w = dictionary(s), dict(field("a", v)), dict(field("a", w))
	}
	path := strings.Repeat(".a", 11)[1:]
	m := own(set("m", path))
	check(t, call{s, v, m, "n", v, false}, good(v, set("m", path), set("n", path)))
	check(t, call{s, v, m, "n", w, false}, bad(api.ErrConflict, api.Conflict{Path: path, Manager: "m"}))
	check(t, call{s, v, m, "n", w, true}, good(w, set("n", path)))
	check(t, call{s, v, m, "m", dict(), true}, good(dict()))
	checkUpdate(t, s, v, w, m, "n", set("n", path))
	checkRefused(t, dictionary(s), dict(), m, "n", dict())
	// Lists in elements, of which each takes two levels, with the longest keys and names.
	key, name := strings.Repeat("\"", 200), letters(40)
	at := `[` + name + `="` + strings.Repeat(`\"`, 200) + `"]`
	s, v, path = word(), text(key), name
	for i := range 5 {
		item := structure(needed(name, api.Schema{Kind: api.VString, Max: 200}))
		element := dict(field(name, text(key)))
		if i > 0 {
			item.Fields, element.Fields, path = append(item.Fields, plain("b", s)), append(element.Fields, field("b", v)), "b"+path
		}
		s, v, path = api.Schema{Kind: api.VList, Max: 64, Key: name, Items: []api.Schema{item}}, list(element), at+"."+path
	}
	s, v, path = structure(plain("b", s)), dict(field("b", v)), "b"+path
	if !schema.Valid(s) || !value.Valid(v) || len(path) < 2000 {
		t.Fatal("the lists are not what they should be")
	}
	leaves := leavesOf(s, v)
	if len(leaves) != 5 || !slices.Contains(leaves, path) {
		t.Fatalf("the leaves are %q", leaves)
	}
	check(t, call{s, v, own(set("m", path)), "n", v, false}, good(v, set("m", path), append(set("n"), leaves...)))
	check(t, call{s, dict(), own(set("m", path)), "n", v, false}, bad(api.ErrConflict, api.Conflict{Path: path, Manager: "m"}))
	check(t, call{s, dict(), own(set("m", path)), "n", v, true}, good(v, append(set("n"), leaves...)))
	checkUpdate(t, s, v, v, own(set("m", path)), "n", set("m", path))
	checkUpdate(t, s, dict(), v, own(set("m", path)), "n", append(set("n"), leaves...))
	checkOwners(t, own(set("m", path)), path, "m")
}

func TestSharedArguments(t *testing.T) { // P2
	// A value may share memory within itself and with another argument; each part of a result has its own.
	l := list(keyed("x", field("n", number(1))), keyed("y"))
	inner := dictionary(keyedList(plain("n", whole())))
	s := structure(plain("a", inner), plain("b", dictionary(inner)), plain("c", listOf(inner)))
	part := dict(field("x", l), field("y", l))
	v := dict(field("a", part), field("b", dict(field("x", part), field("y", part))), field("c", list(part, part)))
	all := leavesOf(s, v)
	check(t, call{s, v, nil, "me", v, false}, answer{v: v, m: mine(s, v)})
	check(t, call{s, v, []api.Manager{{Name: "me", Fields: all}, {Name: "z", Fields: all}}, "me", v, false}, answer{v: v, m: []api.Manager{{Name: "me", Fields: all}, {Name: "z", Fields: all}}})
	check(t, call{s, v, []api.Manager{{Name: "aa", Fields: all}, {Name: "z", Fields: all}}, "me", dict(), false}, answer{v: v, m: []api.Manager{{Name: "aa", Fields: all}, {Name: "z", Fields: all}}})
	checkManagers(t, s, v, v, []api.Manager{{Name: "me", Fields: all}, {Name: "z", Fields: all}}, "new", []api.Manager{{Name: "me", Fields: all}, {Name: "z", Fields: all}})
	// Arguments with room behind their elements, into which nothing is written.
	room := make([]api.Field, 9)
	live := dict(append(room[:0], field("a", number(1)), field("b", number(2)))...)
	config := dict(append(make([]api.Field, 0, 9), field("a", number(5)), field("c", number(3)))...)
	owned := append(make([]string, 0, 9), "a", "b")
	m := append(make([]api.Manager, 0, 9), api.Manager{Name: "m", Fields: owned})
	check(t, call{abc(), live, m, "n", config, true}, good(ab(5, 2, 3), set("m", "b"), set("n", "a", "c")))
	check(t, call{abc(), live, m, "m", config, true}, good(ab(5, -1, 3), set("m", "a", "c")))
	checkUpdate(t, abc(), live, config, m, "l", set("l", "a", "c"))
	checkUpdate(t, abc(), config, live, m, "l", set("l", "a", "b"))
	if !same(dict(room[2:]...), dict(make([]api.Field, 7)...)) || !same(dict(config.Fields[2:9]...), dict(make([]api.Field, 7)...)) || !slices.Equal(owned[2:9], make([]string, 7)) || !sameManagers(m[1:9], make([]api.Manager, 8)) {
		t.Error("something was written behind the end of an argument")
	}
}

func TestDeepArguments(t *testing.T) { // P1, P11.1, P11.2
	const levels = 1<<16 - 2
	maps, lists := nested(levels), null()
	dictionaries, listSchemas, structures := flag(), flag(), flag()
	for range levels {
		lists = list(lists)
		dictionaries, listSchemas, structures = dictionary(dictionaries), listOf(listSchemas), structure(plain("a", structures))
	}
	m := own(set("m", "a"), set("n", strings.Repeat("a.", levels)))
	for _, v := range []api.Value{maps, lists, dict(field("a", lists)), dict(), dict(field("a", dict()))} {
		for _, s := range []api.Schema{dictionaries, listSchemas, structures, dictionary(dictionary(flag()))} {
			if schema.Valid(s) && value.Valid(v) {
				continue
			}
			for _, c := range []call{{s, v, m, "m", dict(), true}, {s, dict(), m, "m", v, false}} {
				after, owners, conflicts, e := Apply(c.s, c.live, c.m, c.name, c.config, c.force)
				if !same(after, null()) || len(owners)+len(conflicts) > 0 || e != api.ErrInvalid {
					t.Errorf("Apply answers %d for deep arguments", e)
				}
				if got := Update(c.s, c.live, c.config, c.m, c.name); !sameManagers(got, m) {
					t.Error("Update changes the managers for deep arguments")
				}
			}
		}
	}
}
