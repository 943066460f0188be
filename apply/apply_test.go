package apply

import (
	"fmt"
	"reflect"
	"slices"
	"strings"
	"testing"

	"orchestrator/api"
	"orchestrator/defaults"
)

// The values of the tests are made by hand, so that what a test expects does not come from the functions that are used below.

func null() api.Value { return api.Value{} }

func truth(n int) api.Value { return api.Value{Kind: api.VBool, N: n} }

func number(n int) api.Value { return api.Value{Kind: api.VInt, N: n} }

func text(s string) api.Value { return api.Value{Kind: api.VString, S: s} }

func list(l ...api.Value) api.Value { return api.Value{Kind: api.VList, List: l} }

func dict(f ...api.Field) api.Value { return api.Value{Kind: api.VMap, Fields: f} }

func field(name string, v api.Value) api.Field { return api.Field{Name: name, V: v} }

// keyed is an element of a keyed list with the key field k.
func keyed(key string, f ...api.Field) api.Value {
	v := dict(append(slices.Clone(f), field("k", text(key)))...)
	slices.SortFunc(v.Fields, func(a, b api.Field) int { return strings.Compare(a.Name, b.Name) })
	return v
}

// The schemas: a boolean, integers, strings, lists, dictionaries and structures.

func flag() api.Schema { return api.Schema{Kind: api.VBool} }

func whole() api.Schema { return api.Schema{Kind: api.VInt, Max: 9} }

func word() api.Schema { return api.Schema{Kind: api.VString, Max: 9} }

func listOf(items ...api.Schema) api.Schema {
	return api.Schema{Kind: api.VList, Max: 64, Items: items}
}

// keyedList is the schema of lists whose elements have the key field k and other fields.
func keyedList(f ...api.SchemaField) api.Schema {
	item := structure(append(slices.Clone(f), needed("k", word()))...)
	slices.SortFunc(item.Fields, func(a, b api.SchemaField) int { return strings.Compare(a.Name, b.Name) })
	return api.Schema{Kind: api.VList, Max: 64, Key: "k", Items: []api.Schema{item}}
}

func dictionary(items ...api.Schema) api.Schema { return api.Schema{Kind: api.VMap, Items: items} }

func structure(f ...api.SchemaField) api.Schema { return api.Schema{Kind: api.VMap, Fields: f} }

func plain(name string, s api.Schema) api.SchemaField { return api.SchemaField{Name: name, S: s} }

func needed(name string, s api.Schema) api.SchemaField {
	return api.SchemaField{Name: name, Required: true, S: s}
}

// several is the schema that most tests use: it has scalars, a dictionary, a structure with a required field, a list without keys, and keyed lists in one another.
func several() api.Schema {
	inner := keyedList(plain("n", whole()))
	outer := keyedList(plain("n", whole()), plain("q", inner), plain("s", structure(plain("x", whole()), plain("y", whole()))))
	return structure(
		plain("a", whole()), plain("b", whole()), plain("c", word()), plain("d", dictionary(dictionary(whole()))),
		plain("e", structure(needed("r", whole()), plain("x", whole()), plain("y", structure(plain("z", whole()))))),
		plain("l", listOf(whole())), plain("m", listOf(structure(plain("x", whole()), plain("y", keyedList())))), plain("p", outer))
}

// own makes managers, each of a name and the fields behind it.
func own(l ...[]string) []api.Manager {
	all := []api.Manager{}
	for _, one := range l {
		all = append(all, api.Manager{Name: one[0], Fields: one[1:]})
	}
	return all
}

func set(l ...string) []string { return l }

func letters(n int) string { return strings.Repeat("a", n) }

// copied copies v; slices that are empty become nil.
func copied(v api.Value) api.Value {
	other := api.Value{Kind: v.Kind, N: v.N, S: v.S}
	for _, one := range v.List {
		other.List = append(other.List, copied(one))
	}
	for _, one := range v.Fields {
		other.Fields = append(other.Fields, field(one.Name, copied(one.V)))
	}
	return other
}

// same reports whether a and b agree in all members, but for the difference of nil and empty.
func same(a, b api.Value) bool { return reflect.DeepEqual(copied(a), copied(b)) }

// copiedSchema copies s; slices that are empty become nil.
func copiedSchema(s api.Schema) api.Schema {
	other := api.Schema{Kind: s.Kind, Min: s.Min, Max: s.Max, Key: s.Key}
	other.Enum = append(other.Enum, s.Enum...)
	for _, one := range s.Items {
		other.Items = append(other.Items, copiedSchema(one))
	}
	for _, one := range s.Fields {
		f := api.SchemaField{Name: one.Name, Required: one.Required, Immutable: one.Immutable, S: copiedSchema(one.S)}
		for _, v := range one.Default {
			f.Default = append(f.Default, copied(v))
		}
		other.Fields = append(other.Fields, f)
	}
	return other
}

// copiedManagers copies m; slices that are empty become nil.
func copiedManagers(m []api.Manager) []api.Manager {
	var other []api.Manager
	for _, one := range m {
		other = append(other, api.Manager{Name: one.Name, Fields: append([]string(nil), one.Fields...)})
	}
	return other
}

func sameManagers(a, b []api.Manager) bool {
	return reflect.DeepEqual(copiedManagers(a), copiedManagers(b))
}

// cells returns the places in memory that the slices of a value reach, spare ones included.
func cells(v api.Value) []any {
	all := []any{}
	spareList, spareFields := v.List[:cap(v.List)], v.Fields[:cap(v.Fields)]
	for i := range spareList {
		all = append(all, &spareList[i])
	}
	for i := range spareFields {
		all = append(all, &spareFields[i])
	}
	for _, one := range v.List {
		all = append(all, cells(one)...)
	}
	for _, one := range v.Fields {
		all = append(all, cells(one.V)...)
	}
	return all
}

// managerCells returns the places in memory that managers reach, spare ones included.
func managerCells(m []api.Manager) []any {
	all := []any{}
	spare := m[:cap(m)]
	for i := range spare {
		all = append(all, &spare[i])
	}
	for _, one := range m {
		spare := one.Fields[:cap(one.Fields)]
		for i := range spare {
			all = append(all, &spare[i])
		}
	}
	return all
}

// checkApart checks that no place of the answer is one of the arguments or stands in it twice.
func checkApart(t *testing.T, what string, arguments, answer []any) {
	t.Helper()
	taken := map[any]bool{}
	for _, one := range arguments {
		taken[one] = true
	}
	for _, one := range answer {
		if taken[one] {
			t.Fatalf("%s shares memory with an argument or within itself", what)
		}
		taken[one] = true
	}
}

// call is a call of Apply.
type call struct {
	s      api.Schema
	live   api.Value
	m      []api.Manager
	name   string
	config api.Value
	force  bool
}

func (c call) String() string {
	return fmt.Sprintf("Apply(%s, %s, %q, %q, %s, %t)", schemaText(c.s), valueText(c.live), c.m, c.name, valueText(c.config), c.force)
}

// valueText shows a value shortly.
func valueText(v api.Value) string {
	switch v.Kind {
	case api.VNull:
		return "null"
	case api.VString:
		return fmt.Sprintf("%q", v.S)
	case api.VList:
		var all []string
		for _, one := range v.List {
			all = append(all, valueText(one))
		}
		return "[" + strings.Join(all, " ") + "]"
	case api.VMap:
		var all []string
		for _, one := range v.Fields {
			all = append(all, one.Name+":"+valueText(one.V))
		}
		return "{" + strings.Join(all, " ") + "}"
	}
	return fmt.Sprint(v.N)
}

// schemaText shows a schema shortly.
func schemaText(s api.Schema) string {
	all := []string{[]string{"null", "bool", "int", "string", "list", "map"}[max(0, s.Kind)%6] + s.Key}
	for _, one := range s.Items {
		all = append(all, schemaText(one))
	}
	for _, one := range s.Fields {
		all = append(all, one.Name+":"+schemaText(one.S))
	}
	if len(all) == 1 {
		return all[0]
	}
	return "(" + strings.Join(all, " ") + ")"
}

func (c call) forced() call {
	c.force = true
	return c
}

// answer is what Apply answers.
type answer struct {
	v         api.Value
	m         []api.Manager
	conflicts []api.Conflict
	e         api.Errno
}

func (a answer) String() string {
	return fmt.Sprintf("%s, %q, %v, %d", valueText(a.v), a.m, a.conflicts, a.e)
}

func (a answer) equals(b answer) bool {
	return same(a.v, b.v) && sameManagers(a.m, b.m) && slices.Equal(a.conflicts, b.conflicts) && a.e == b.e
}

func good(v api.Value, m ...[]string) answer { return answer{v: v, m: own(m...)} }

func bad(e api.Errno, conflicts ...api.Conflict) answer { return answer{e: e, conflicts: conflicts} }

// run calls Apply; it checks that the arguments stay as they were, that the results have memory of their own, each part of them, and that a second call answers the same.
func run(t *testing.T, c call) answer {
	t.Helper()
	before := call{copiedSchema(c.s), copied(c.live), copiedManagers(c.m), c.name, copied(c.config), c.force}
	var got, again answer
	got.v, got.m, got.conflicts, got.e = Apply(c.s, c.live, c.m, c.name, c.config, c.force)
	checkApart(t, c.String(), slices.Concat(cells(c.live), managerCells(c.m), cells(c.config)), slices.Concat(cells(got.v), managerCells(got.m)))
	again.v, again.m, again.conflicts, again.e = Apply(c.s, c.live, c.m, c.name, c.config, c.force)
	if !got.equals(again) {
		t.Fatalf("%v = %v and %v", c, got, again)
	}
	after := call{copiedSchema(c.s), copied(c.live), copiedManagers(c.m), c.name, copied(c.config), c.force}
	if !reflect.DeepEqual(before, after) {
		t.Fatalf("%v changed its arguments to those of %v", before, after)
	}
	return got
}

func check(t *testing.T, c call, want answer) {
	t.Helper()
	if got := run(t, c); !got.equals(want) {
		t.Errorf("%v = %v; want %v", c, got, want)
	}
}

func updateText(s api.Schema, before, after api.Value, m []api.Manager, name string) string {
	return fmt.Sprintf("Update(%s, %s, %s, %q, %q)", schemaText(s), valueText(before), valueText(after), m, name)
}

// runUpdate calls Update with the same checks as run.
func runUpdate(t *testing.T, s api.Schema, before, after api.Value, m []api.Manager, name string) []api.Manager {
	t.Helper()
	what := updateText(s, before, after, m, name)
	was := []any{copiedSchema(s), copied(before), copied(after), copiedManagers(m)}
	got := Update(s, before, after, m, name)
	checkApart(t, what, managerCells(m), managerCells(got))
	if again := Update(s, before, after, m, name); !sameManagers(got, again) {
		t.Fatalf("%s = %+v and %+v", what, got, again)
	}
	if is := []any{copiedSchema(s), copied(before), copied(after), copiedManagers(m)}; !reflect.DeepEqual(was, is) {
		t.Fatalf("%s changed its arguments to %+v", what, is)
	}
	return got
}

func checkManagers(t *testing.T, s api.Schema, before, after api.Value, m []api.Manager, name string, want []api.Manager) {
	t.Helper()
	if got := runUpdate(t, s, before, after, m, name); !sameManagers(got, want) {
		t.Errorf("%s = %q; want %q", updateText(s, before, after, m, name), got, want)
	}
}

func checkUpdate(t *testing.T, s api.Schema, before, after api.Value, m []api.Manager, name string, want ...[]string) {
	t.Helper()
	checkManagers(t, s, before, after, m, name, own(want...))
}

func checkOwners(t *testing.T, m []api.Manager, path string, want ...string) {
	t.Helper()
	before := copiedManagers(m)
	got := OwnersOf(m, path)
	if !slices.Equal(got, want) {
		t.Errorf("OwnersOf(%+v, %q) = %q; want %q", m, path, got, want)
	}
	for i := range got {
		got[i] = "changed"
	}
	if again := OwnersOf(m, path); !slices.Equal(again, want) || !sameManagers(m, before) {
		t.Errorf("OwnersOf(%+v, %q) = %q at the second time; want %q", m, path, again, want)
	}
}

// ab is the map with the numbers a, b and c as far as they are not negative.
func ab(a, b, c int) api.Value {
	v := dict()
	for i, n := range []int{a, b, c} {
		if n >= 0 {
			v.Fields = append(v.Fields, field("abc"[i:i+1], number(n)))
		}
	}
	return v
}

func abc() api.Schema {
	return structure(plain("a", whole()), plain("b", whole()), plain("c", whole()))
}

func TestExamples(t *testing.T) { // P11.1, P11.2, P11.3
	m := own(set("m", "a", "b"))
	check(t, call{abc(), ab(1, 2, -1), m, "n", ab(1, -1, 3), false}, good(ab(1, 2, 3), set("m", "a", "b"), set("n", "a", "c")))
	check(t, call{abc(), ab(1, 2, -1), m, "n", ab(5, -1, -1), false}, bad(api.ErrConflict, api.Conflict{Path: "a", Manager: "m"}))
	check(t, call{abc(), ab(1, 2, -1), m, "n", ab(5, -1, -1), true}, good(ab(5, 2, -1), set("m", "b"), set("n", "a")))
	check(t, call{abc(), ab(1, 2, -1), m, "m", ab(1, -1, -1), false}, good(ab(1, -1, -1), set("m", "a")))
	checkUpdate(t, abc(), ab(1, 2, -1), ab(1, 3, -1), m, "n", set("m", "a"), set("n", "b"))
	checkOwners(t, own(set("k", "b"), set("m", "a", "b"), set("n", "c")), "b", "k", "m")
}

func TestLeavesThatLiveSatisfies(t *testing.T) { // P11.1, P11.5
	s := several()
	x := dict(field("e", dict(field("x", number(1)))))
	q := dict(field("p", list(keyed("k1", field("q", list(keyed("k2")))))))
	for _, c := range []struct {
		live, config api.Value
		leaf         string
		satisfied    bool
	}{
		{dict(field("a", number(1))), dict(field("a", number(1))), "a", true},
		{dict(field("a", number(1))), dict(field("a", number(2))), "a", false},
		{dict(field("a", number(0))), dict(field("a", number(1))), "a", false},
		{dict(), dict(field("a", number(0))), "a", false},
		{dict(field("a", null())), dict(field("a", number(0))), "a", false},
		{dict(field("b", number(1))), dict(field("a", number(1))), "a", false},
		{dict(field("c", text(""))), dict(field("c", text(""))), "c", true},
		{dict(field("c", text("x"))), dict(field("c", text("X"))), "c", false},
		// Empty maps and lists.
		{dict(), dict(field("e", dict())), "e", false},
		{dict(field("e", null())), dict(field("e", dict())), "e", false},
		{dict(field("e", dict())), dict(field("e", dict())), "e", true},
		{x, dict(field("e", dict())), "e", true},
		{dict(field("e", dict(field("x", null())))), dict(field("e", dict())), "e", true},
		{x, dict(field("e", dict(field("x", null())))), "e", true},
		{x, dict(field("e", dict(field("y", dict())))), "e.y", false},
		{dict(field("e", dict())), x, "e.x", false},
		{dict(field("d", dict(field("i", dict())))), dict(field("d", dict())), "d", true},
		{dict(field("d", dict(field("i", dict(field("j", number(1))))))), dict(field("d", dict(field("i", dict())))), "d.i", true},
		{dict(field("d", dict(field("i", dict(field("j", number(1))))))), dict(field("d", dict(field("j", dict())))), "d.j", false},
		{dict(), dict(field("p", list())), "p", false},
		{dict(field("p", list())), dict(field("p", list())), "p", true},
		{dict(field("p", list(keyed("k1")))), dict(field("p", list())), "p", true},
		{q, dict(field("p", list())), "p", true},
		// Lists without keys are leaves as a whole.
		{dict(), dict(field("l", list())), "l", false},
		{dict(field("l", list())), dict(field("l", list())), "l", true},
		{dict(field("l", list(number(1)))), dict(field("l", list())), "l", false},
		{dict(field("l", list())), dict(field("l", list(number(1)))), "l", false},
		{dict(field("l", list(number(1), number(2)))), dict(field("l", list(number(1), number(2)))), "l", true},
		{dict(field("l", list(number(1), number(2)))), dict(field("l", list(number(2), number(1)))), "l", false},
		{dict(field("m", list(dict(field("x", number(1)))))), dict(field("m", list(dict()))), "m", false},
		{dict(field("m", list(dict(field("y", list(keyed("z"))))))), dict(field("m", list(dict(field("y", list()))))), "m", false},
		{dict(field("m", list(dict(field("x", null()))))), dict(field("m", list(dict(field("y", null()))))), "m", true},
	} {
		clean := api.Conflict{Path: c.leaf, Manager: "other"}
		held := call{s, c.live, own(set("other", c.leaf)), "me", c.config, false}
		if c.satisfied {
			got := run(t, held)
			if got.e != api.OK || !sameManagers(got.m, own(set("me", c.leaf), set("other", c.leaf))) {
				t.Errorf("%v = %v", held, got)
			}
			continue
		}
		check(t, held, bad(api.ErrConflict, clean))
		// By force, and if nobody else owns the leaf, it goes to me.
		for _, m := range [][]api.Manager{own(set("other", c.leaf)), nil, own(set("me", c.leaf)), own(set("me", "x", "y")), own(set("me", c.leaf+".", "zz"))} {
			got := run(t, call{s, c.live, m, "me", c.config, true})
			if got.e != api.OK || len(got.conflicts) > 0 || !sameManagers(got.m, own(set("me", c.leaf))) {
				t.Errorf("with %q: %s by force over %s: %v", m, valueText(c.config), valueText(c.live), got)
			}
			if m == nil || m[0].Name == "me" {
				check(t, call{s, c.live, m, "me", c.config, false}, got)
			}
		}
	}
}

func TestKeyedLeaves(t *testing.T) { // P11.1, P11.5
	s := several()
	in := func(l ...api.Value) api.Value { return dict(field("p", list(l...))) }
	k, n, other := `p[k="x"].k`, `p[k="x"].n`, `p[k="x"].q[k="z"].n`
	live := in(keyed("w"), keyed("x", field("n", number(1)), field("q", list(keyed("z", field("n", number(2)))))))
	m := own(set("m", k, n, other))
	// The key field of an element is satisfied wherever the element stands.
	check(t, call{s, live, m, "n", in(keyed("x")), false}, good(live, set("m", k, n, other), set("n", k)))
	check(t, call{s, live, m, "n", in(keyed("x", field("n", number(1)))), false}, good(live, set("m", k, n, other), set("n", k, n)))
	check(t, call{s, live, m, "n", in(keyed("x", field("n", number(2)))), false}, bad(api.ErrConflict, api.Conflict{Path: n, Manager: "m"}))
	check(t, call{s, live, m, "n", in(keyed("x", field("n", number(3)), field("q", list(keyed("z", field("n", number(3))), keyed("zz"))))), false}, bad(api.ErrConflict, api.Conflict{Path: n, Manager: "m"}, api.Conflict{Path: other, Manager: "m"}))
	// An element that live does not have is not satisfied, not even in its key.
	gone := own(set("m", `p[k="new"].k`, `p[k="new"].n`))
	check(t, call{s, live, gone, "n", in(keyed("new")), false}, bad(api.ErrConflict, api.Conflict{Path: `p[k="new"].k`, Manager: "m"}))
	check(t, call{s, live, gone, "n", in(keyed("new")), true}, good(in(append(live.Fields[0].V.List, keyed("new"))...), set("m", `p[k="new"].n`), set("n", `p[k="new"].k`)))
	// Keys with quotes, backslashes and line feeds.
	hard := "\"\\\n]"
	at := `p[k="\"\\\n]"].n`
	check(t, call{s, in(keyed(hard, field("n", number(1)))), own(set("m", at)), "n", in(keyed(hard, field("n", number(1)))), false}, good(in(keyed(hard, field("n", number(1)))), set("m", at), set("n", `p[k="\"\\\n]"].k`, at)))
	check(t, call{s, in(keyed(hard, field("n", number(1)))), own(set("m", at)), "n", in(keyed(hard, field("n", number(2)))), false}, bad(api.ErrConflict, api.Conflict{Path: at, Manager: "m"}))
	check(t, call{s, in(keyed(hard)), own(set("m", at)), "n", in(keyed("", field("n", number(2)))), false}, good(in(keyed(hard), keyed("", field("n", number(2)))), set("m", at), set("n", `p[k=""].k`, `p[k=""].n`)))
}

func TestOrderOfConflicts(t *testing.T) { // P11.1, P11.5
	s := dictionary(dictionary(whole()))
	one := func(n int) api.Value {
		v := dict()
		for _, name := range []string{"a", "a-", "a/", "a0", "b"} {
			v.Fields = append(v.Fields, field(name, dict(field("n", number(n)))))
		}
		return v
	}
	// The order of the texts is not that of the fields.
	paths := set("a-.n", "a.n", "a/.n", "a0.n", "b.n")
	m := own(set("B", paths[0], paths[3]), set("a", paths[3], paths[4]), append(set("aa"), paths...), set("b", "x"), set("c", paths[1], paths[2], "b.n"), append(set("me"), paths...), set("z", paths[0], "b"))
	want := []api.Conflict{{Path: "a-.n", Manager: "B"}, {Path: "a-.n", Manager: "aa"}, {Path: "a-.n", Manager: "z"}, {Path: "a.n", Manager: "aa"}, {Path: "a.n", Manager: "c"}, {Path: "a/.n", Manager: "aa"}, {Path: "a/.n", Manager: "c"}, {Path: "a0.n", Manager: "B"}, {Path: "a0.n", Manager: "a"}, {Path: "a0.n", Manager: "aa"}, {Path: "b.n", Manager: "a"}, {Path: "b.n", Manager: "aa"}, {Path: "b.n", Manager: "c"}}
	c := call{s, one(1), m, "me", one(2), false}
	check(t, c, bad(api.ErrConflict, want...))
	check(t, c.forced(), good(one(2), set("b", "x"), append(set("me"), paths...), set("z", "b")))
	// Of the same leaves only those that differ.
	v := one(1)
	v.Fields[1].V, v.Fields[4].V = dict(field("n", number(3))), dict(field("n", number(3)))
	c.config = v
	check(t, c, bad(api.ErrConflict, append(slices.Clone(want[:3]), want[10:]...)...))
	check(t, c.forced(), good(v, set("B", "a0.n"), set("a", "a0.n"), append(set("aa"), paths[1:4]...), set("b", "x"), set("c", "a.n", "a/.n"), append(set("me"), paths...), set("z", "b")))
	// Someone who owns it alone has no conflict, and neither has someone among others that do not own it.
	check(t, call{s, one(1), own(set("b", "x", "y"), append(set("me"), paths...), set("z", "b", "b.")), "me", one(2), false}, good(one(2), set("b", "x", "y"), append(set("me"), paths...), set("z", "b", "b.")))
}

func TestMerge(t *testing.T) { // P11.1
	s := several()
	n := func(n int) api.Field { return field("n", number(n)) }
	in := func(l ...api.Value) api.Value { return dict(field("p", list(l...))) }
	for _, c := range []struct{ live, config, want api.Value }{
		{dict(), dict(), dict()},
		{dict(field("a", number(1))), dict(), dict(field("a", number(1)))},
		{dict(), dict(field("a", number(1))), dict(field("a", number(1)))},
		{dict(field("b", number(1))), dict(field("a", number(2)), field("c", text("x"))), dict(field("a", number(2)), field("b", number(1)), field("c", text("x")))},
		{dict(field("a", number(2)), field("c", text("x"))), dict(field("b", number(1))), dict(field("a", number(2)), field("b", number(1)), field("c", text("x")))},
		// Nulls are missing.
		{dict(field("a", null()), field("b", number(1)), field("e", dict(field("x", null())))), dict(field("b", null()), field("c", null()), field("p", null())), dict(field("b", number(1)), field("e", dict()))},
		{dict(field("a", number(1))), dict(field("a", null()), field("m", list(dict(field("x", null()))))), dict(field("a", number(1)), field("m", list(dict())))},
		// Maps in one another.
		{dict(field("e", dict(field("r", number(1)), field("y", dict(field("z", number(2))))))), dict(field("e", dict(field("x", number(3)), field("y", dict())))), dict(field("e", dict(field("r", number(1)), field("x", number(3)), field("y", dict(field("z", number(2)))))))},
		{dict(field("e", dict(field("x", number(1))))), dict(field("e", dict(field("x", number(2)), field("y", dict(field("z", number(3))))))), dict(field("e", dict(field("x", number(2)), field("y", dict(field("z", number(3)))))))},
		{dict(field("e", dict())), dict(field("e", dict(field("y", dict())))), dict(field("e", dict(field("y", dict()))))},
		{dict(field("d", dict(field("i", dict(field("j", number(1)))), field("k", dict())))), dict(field("d", dict(field("i", dict(field("j", number(2)), field("k", number(3)))), field("j", dict(field("i", number(4))))))), dict(field("d", dict(field("i", dict(field("j", number(2)), field("k", number(3)))), field("j", dict(field("i", number(4)))), field("k", dict()))))},
		// Lists without keys are not merged.
		{dict(field("l", list(number(1), number(2)))), dict(field("l", list(number(3)))), dict(field("l", list(number(3))))},
		{dict(field("l", list(number(1), number(2)))), dict(field("l", list())), dict(field("l", list()))},
		{dict(field("m", list(dict(field("x", number(1)), field("y", list(keyed("x"))))))), dict(field("m", list(dict(field("y", list(keyed("y"))))))), dict(field("m", list(dict(field("y", list(keyed("y")))))))},
		// Keyed lists: the elements of live stay in their order, those of config come behind them.
		{in(), in(), in()},
		{in(keyed("b"), keyed("a")), in(), in(keyed("b"), keyed("a"))},
		{in(), in(keyed("b"), keyed("a")), in(keyed("b"), keyed("a"))},
		{dict(), in(keyed("b"), keyed("a")), in(keyed("b"), keyed("a"))},
		{in(keyed("c"), keyed("a")), in(keyed("d"), keyed("b")), in(keyed("c"), keyed("a"), keyed("d"), keyed("b"))},
		{in(keyed("c", n(1)), keyed("a", n(2)), keyed("b")), in(keyed("b", n(3)), keyed("d", n(4)), keyed("a"), keyed("", n(5)), keyed("c", n(6))), in(keyed("c", n(6)), keyed("a", n(2)), keyed("b", n(3)), keyed("d", n(4)), keyed("", n(5)))},
		{in(keyed("a", n(1), field("q", list(keyed("y"), keyed("x", n(1)))), field("s", dict(field("x", number(1)))))), in(keyed("a", field("q", list(keyed("z"), keyed("x", n(2)))), field("s", dict(field("y", number(2)))))), in(keyed("a", n(1), field("q", list(keyed("y"), keyed("x", n(2)), keyed("z"))), field("s", dict(field("x", number(1)), field("y", number(2))))))},
		{in(keyed("a", field("q", list(keyed("x"))), field("s", dict(field("x", number(1)))))), in(keyed("a", field("q", list()), field("s", dict()))), in(keyed("a", field("q", list(keyed("x"))), field("s", dict(field("x", number(1))))))},
		{in(keyed("a")), in(keyed("a", field("q", list()), field("s", dict()))), in(keyed("a", field("q", list()), field("s", dict())))},
	} {
		leaves := leavesOf(s, defaults.Prune(s, c.config))
		want := answer{v: c.want}
		if len(leaves) > 0 {
			want.m = own(append(set("me"), leaves...))
		}
		check(t, call{s, c.live, nil, "me", c.config, false}, want)
		check(t, call{s, c.live, nil, "me", c.config, true}, want)
	}
}

func TestLeavesThatAreGivenUp(t *testing.T) { // P11.1, P11.6
	s := several()
	all := ab(1, 2, -1)
	for _, c := range []struct {
		m          []api.Manager
		live       api.Value
		config     api.Value
		want       api.Value
		wantOwners []api.Manager
	}{
		// A leaf that is no longer applied goes, unless someone else owns it or nobody has owned it.
		{own(set("me", "a", "b")), all, dict(), dict(), nil},
		{own(set("me", "a", "b")), all, ab(-1, 2, -1), ab(-1, 2, -1), own(set("me", "b"))},
		{own(set("me", "a", "b")), all, ab(-1, 3, -1), ab(-1, 3, -1), own(set("me", "b"))},
		{own(set("me", "a")), all, dict(), ab(-1, 2, -1), nil},
		{nil, all, dict(), all, nil},
		{own(set("aa", "a"), set("me", "a", "b")), all, dict(), ab(1, -1, -1), own(set("aa", "a"))},
		{own(set("me", "a", "b"), set("z", "b", "c")), all, dict(), ab(-1, 2, -1), own(set("z", "b", "c"))},
		{own(set("aa", "a"), set("me", "a", "b"), set("z", "b", "c")), all, dict(), all, own(set("aa", "a"), set("z", "b", "c"))},
		{own(set("aa", "a"), set("z", "b", "c")), all, dict(), all, own(set("aa", "a"), set("z", "b", "c"))},
		{own(set("mf", "a", "b")), all, dict(), all, own(set("mf", "a", "b"))},
		{own(set("mE", "a", "b")), all, dict(), all, own(set("mE", "a", "b"))},
		// What else someone owns does not count: texts that are no leaf of live, and no paths.
		{own(set("me", "", "A", "a ", "a.", "a.x", "ab", "b[0]", "c", "\xff")), all, dict(), all, nil},
		{own(set("me", "a", "a."), set("z", "a.", "aa")), all, dict(), ab(-1, 2, -1), own(set("z", "a.", "aa"))},
		{own(set("me", "")), dict(), dict(), dict(), nil},
		{own(set("me", ""), set("z", "")), dict(), ab(1, -1, -1), ab(1, -1, -1), own(set("me", "a"), set("z", ""))},
		// Maps without leaves go too, except at the root.
		{own(set("me", "e.x")), dict(field("e", dict(field("x", number(1))))), dict(), dict(), nil},
		{own(set("me", "e.x")), dict(field("e", dict(field("x", number(1))))), dict(field("e", dict())), dict(field("e", dict())), own(set("me", "e"))},
		{own(set("me", "e")), dict(field("e", dict())), dict(), dict(), nil},
		{own(set("me", "e")), dict(field("e", dict())), dict(field("e", dict(field("x", number(1))))), dict(field("e", dict(field("x", number(1))))), own(set("me", "e.x"))},
		{own(set("me", "e")), dict(field("e", dict(field("x", number(1))))), dict(), dict(field("e", dict(field("x", number(1))))), nil},
		{own(set("me", "e", "e.y.z")), dict(field("e", dict(field("x", number(1)), field("y", dict(field("z", number(1))))))), dict(), dict(field("e", dict(field("x", number(1))))), nil},
		{own(set("aa", "e"), set("me", "e.x")), dict(field("e", dict(field("x", number(1))))), dict(), dict(), own(set("aa", "e"))},
		{own(set("me", "d.i.j")), dict(field("d", dict(field("i", dict(field("j", number(1)))), field("k", dict())))), dict(), dict(field("d", dict(field("k", dict())))), nil},
		{own(set("me", "l")), dict(field("l", list(number(1)))), dict(), dict(), nil},
		{own(set("me", "l")), dict(field("l", list(number(1)))), dict(field("l", list())), dict(field("l", list())), own(set("me", "l"))},
	} {
		check(t, call{s, c.live, c.m, "me", c.config, false}, answer{v: c.want, m: c.wantOwners})
		check(t, call{s, c.live, c.m, "me", c.config, true}, answer{v: c.want, m: c.wantOwners})
	}
}

func TestElementsThatAreGivenUp(t *testing.T) { // P11.1, P11.6
	s := several()
	in := func(l ...api.Value) api.Value { return dict(field("p", list(l...))) }
	one := field("n", number(1))
	xk, xn, yk := `p[k="x"].k`, `p[k="x"].n`, `p[k="y"].k`
	live := in(keyed("y"), keyed("x", one), keyed("z"))
	// An element stays, with its key, as long as one of its leaves does.
	check(t, call{s, live, own(set("me", xk, xn)), "me", dict(), false}, good(in(keyed("y"), keyed("z"))))
	check(t, call{s, live, own(set("me", xk)), "me", dict(), false}, good(live))
	check(t, call{s, live, own(set("me", xn)), "me", dict(), false}, good(in(keyed("y"), keyed("x"), keyed("z"))))
	check(t, call{s, live, own(set("aa", xn), set("me", xk, xn, yk)), "me", dict(), false}, good(in(keyed("x", one), keyed("z")), set("aa", xn)))
	check(t, call{s, live, own(set("aa", xk), set("me", xk, xn)), "me", dict(), false}, good(in(keyed("y"), keyed("x"), keyed("z")), set("aa", xk)))
	// An element that goes and comes back takes the last place; one that is applied again keeps its own.
	check(t, call{s, live, own(set("me", xk, xn, yk)), "me", in(keyed("new"), keyed("x")), false}, good(in(keyed("x"), keyed("z"), keyed("new")), set("me", `p[k="new"].k`, xk)))
	check(t, call{s, live, own(set("me", xk, xn, yk)), "me", in(keyed("new"), keyed("y")), false}, good(in(keyed("y"), keyed("z"), keyed("new")), set("me", `p[k="new"].k`, yk)))
	check(t, call{s, in(keyed("x", one)), own(set("me", xk, xn)), "me", in(keyed("y")), false}, good(in(keyed("y")), set("me", yk)))
	check(t, call{s, in(keyed("x", one)), own(set("me", xk, xn)), "me", in(), false}, good(in(), set("me", "p")))
	check(t, call{s, in(keyed("x", one)), own(set("me", "p", xk, xn)), "me", dict(), false}, good(dict()))
	check(t, call{s, in(keyed("x", one)), own(set("aa", "p"), set("me", xk, xn)), "me", dict(), false}, good(dict(), set("aa", "p")))
	// In the lists of elements.
	deep := in(keyed("x", field("q", list(keyed("z", one), keyed("y")))))
	zk, zn := `p[k="x"].q[k="z"].k`, `p[k="x"].q[k="z"].n`
	check(t, call{s, deep, own(set("me", xk, zk, zn)), "me", in(keyed("x")), false}, good(in(keyed("x", field("q", list(keyed("y"))))), set("me", xk)))
	check(t, call{s, deep, own(set("me", xk, zk, zn)), "me", dict(), false}, good(in(keyed("x", field("q", list(keyed("y")))))))
	check(t, call{s, deep, own(set("me", xk, `p[k="x"].q[k="y"].k`, zk, zn)), "me", dict(), false}, good(dict()))
	check(t, call{s, deep, own(set("me", xk, `p[k="x"].q[k="y"].k`, zk, zn)), "me", in(keyed("x")), false}, good(in(keyed("x")), set("me", xk)))
}

func TestManagersByForce(t *testing.T) { // P11.1, P11.5
	// Others lose what is taken from them, and nothing else; whoever loses all is no manager any more.
	live, config := ab(1, 2, 3), ab(1, 5, 6)
	for _, c := range []struct{ before, after []api.Manager }{
		{nil, own(set("me", "a", "b", "c"))},
		{own(set("b", "b")), own(set("me", "a", "b", "c"))},
		{own(set("b", "b"), set("z", "b", "c")), own(set("me", "a", "b", "c"))},
		{own(set("b", "a")), own(set("b", "a"), set("me", "a", "b", "c"))},
		{own(set("b", "a", "b", "bb", "c"), set("z", "b", "c")), own(set("b", "a", "bb"), set("me", "a", "b", "c"))},
		{own(set("b", "", "b", "\xff"), set("me", "b", "x"), set("z", "b", "c.d")), own(set("b", "", "\xff"), set("me", "a", "b", "c"), set("z", "c.d"))},
		{own(set("a", "a"), set("l", "a"), set("mf", "a"), set("n", "a")), own(set("a", "a"), set("l", "a"), set("me", "a", "b", "c"), set("mf", "a"), set("n", "a"))},
		{own(set("me", "a"), set("mee", "c")), own(set("me", "a", "b", "c"))},
	} {
		check(t, call{abc(), live, c.before, "me", config, true}, answer{v: config, m: c.after})
	}
	// What is given up while others are in conflict.
	check(t, call{abc(), live, own(set("b", "b"), set("me", "a", "b", "c"), set("z", "c")), "me", ab(-1, 5, -1), true}, good(ab(-1, 5, 3), set("me", "b"), set("z", "c")))
}

// crowd is a list of n managers m10, m11 and so on, who all own the fields.
func crowd(n int, fields ...string) []api.Manager {
	all := []api.Manager{}
	for i := range n {
		all = append(all, api.Manager{Name: fmt.Sprint("m", 10+i), Fields: slices.Clone(fields)})
	}
	return all
}

func TestNumberOfManagers(t *testing.T) { // P11.1, P11.2
	live, config := ab(1, -1, -1), ab(-1, 2, -1)
	both := ab(1, 2, -1)
	// As many as there may be, and one more.
	for _, name := range []string{"a", "m10a", "z"} {
		after := append(crowd(15, "a"), api.Manager{Name: name, Fields: set("b")})
		slices.SortFunc(after, func(a, b api.Manager) int { return strings.Compare(a.Name, b.Name) })
		check(t, call{abc(), live, crowd(15, "a"), name, config, false}, answer{v: both, m: after})
		check(t, call{abc(), live, crowd(16, "a"), name, config, false}, bad(api.ErrFull))
		check(t, call{abc(), live, crowd(16, "a"), name, config, true}, bad(api.ErrFull))
		check(t, call{abc(), live, crowd(16, "a"), name, dict(), false}, answer{v: live, m: crowd(16, "a")})
		check(t, call{abc(), live, crowd(17, "a"), name, dict(), false}, bad(api.ErrInvalid))
		checkManagers(t, abc(), live, both, crowd(15, "a"), name, after)
		checkManagers(t, abc(), live, both, crowd(16, "a"), name, crowd(16, "a"))
	}
	// One of them stays one.
	after := crowd(16, "a")
	after[7].Fields = set("b")
	check(t, call{abc(), live, crowd(16, "a"), "m17", config, false}, answer{v: both, m: after})
	after[7].Fields = set("a", "b")
	checkManagers(t, abc(), live, both, crowd(16, "a"), "m17", after)
	// There is room for one if another one loses all.
	some := crowd(16, "a")
	some[3].Fields = set("b")
	room := append(slices.Delete(crowd(16, "a"), 3, 4), api.Manager{Name: "z", Fields: set("b")})
	check(t, call{abc(), both, some, "z", ab(-1, 3, -1), false}, bad(api.ErrConflict, api.Conflict{Path: "b", Manager: "m13"}))
	check(t, call{abc(), both, some, "z", ab(-1, 3, -1), true}, answer{v: ab(1, 3, -1), m: room})
	checkManagers(t, abc(), both, ab(1, 3, -1), some, "z", room)
	// The others lose what has changed even if there is no room.
	full := crowd(16, "a", "b")
	checkManagers(t, abc(), both, ab(1, 3, -1), full, "z", crowd(16, "a"))
	// Conflicts come first, then the number of managers, then the size of the value.
	wide := func(from, to int) api.Value {
		v := dict()
		for i := from; i < to; i++ {
			v.Fields = append(v.Fields, field(fmt.Sprint("n", 10+i), number(1)))
		}
		return v
	}
	s := dictionary(whole())
	check(t, call{s, wide(0, 40), crowd(16, "n20"), "z", wide(30, 80), false}, bad(api.ErrFull))
	check(t, call{s, wide(0, 40), crowd(15, "n20"), "z", wide(30, 80), false}, bad(api.ErrTooLong))
	check(t, call{s, wide(0, 40), crowd(16, "n80", "x"), "z", wide(30, 80), false}, bad(api.ErrConflict, conflictsOfCrowd(16, "n80")...))
	check(t, call{s, wide(0, 40), crowd(16, "n80", "x"), "z", wide(30, 80), true}, bad(api.ErrFull))
	check(t, call{s, wide(0, 40), crowd(16, "n80"), "z", wide(30, 80), true}, bad(api.ErrTooLong))
}

func conflictsOfCrowd(n int, path string) []api.Conflict {
	all := []api.Conflict{}
	for _, one := range crowd(n) {
		all = append(all, api.Conflict{Path: path, Manager: one.Name})
	}
	return all
}
