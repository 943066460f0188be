package path

import (
	"fmt"
	"math"
	"math/rand"
	"reflect"
	"slices"
	"testing"

	"orchestrator/api"
	"orchestrator/value"
)

// The values of the tests are made by hand, so that what a test expects does not come from the functions that are used below.

func number(n int) api.Value { return api.Value{Kind: api.VInt, N: n} }

func text(s string) api.Value { return api.Value{Kind: api.VString, S: s} }

func list(l ...api.Value) api.Value { return api.Value{Kind: api.VList, List: l} }

func fields(f ...api.Field) api.Value { return api.Value{Kind: api.VMap, Fields: f} }

func field(name string, v api.Value) api.Field { return api.Field{Name: name, V: v} }

// keyed returns a map with the fields k and, if n is not 0, n.
func keyed(k string, n int) api.Value {
	if n == 0 {
		return fields(field("k", text(k)))
	}
	return fields(field("k", text(k)), field("n", number(n)))
}

// many returns a list of n nulls.
func many(n int) api.Value { return list(make([]api.Value, n)...) }

// manyFields returns a map of n fields with the names f10, f11 and so on, which are null.
func manyFields(n int) api.Value {
	v := fields()
	for i := range n {
		v.Fields = append(v.Fields, field(fmt.Sprintf("f%d", 10+i), api.Value{}))
	}
	return v
}

// nested returns maps in one another, with the given number of levels.
func nested(levels int) api.Value {
	v := api.Value{}
	for range levels - 1 {
		v = fields(field("a", v))
	}
	return v
}

// ofSize returns a list of n values in all; n is from 588 to 651. Its last element is a list.
func ofSize(n int) api.Value {
	return list(append(slices.Repeat([]api.Value{many(64)}, 9), many(n-1-9*65-1))...)
}

// copied copies v; slices that are empty become nil.
func copied(v api.Value) api.Value {
	other := api.Value{Kind: v.Kind, N: v.N, S: v.S}
	for _, one := range v.List {
		other.List = append(other.List, copied(one))
	}
	for _, one := range v.Fields {
		other.Fields = append(other.Fields, field(one.Name, copied(one.V)))
	}
	return other
}

// same reports whether a and b agree in all members, but for the difference of nil and empty.
func same(a, b api.Value) bool { return reflect.DeepEqual(copied(a), copied(b)) }

// cells returns the places in memory that the slices of a value reach, spare ones included.
func cells(v api.Value) []any {
	all := []any{}
	spareList, spareFields := v.List[:cap(v.List)], v.Fields[:cap(v.Fields)]
	for i := range spareList {
		all = append(all, &spareList[i])
	}
	for i := range spareFields {
		all = append(all, &spareFields[i])
	}
	for _, one := range v.List {
		all = append(all, cells(one)...)
	}
	for _, one := range v.Fields {
		all = append(all, cells(one.V)...)
	}
	return all
}

// checkApart checks that the result shares no memory with the arguments, and that no two of its slices share any.
func checkApart(t *testing.T, result api.Value, arguments ...api.Value) {
	t.Helper()
	taken := map[any]bool{}
	for _, one := range arguments {
		for _, cell := range cells(one) {
			taken[cell] = true
		}
	}
	for _, cell := range cells(result) {
		if taken[cell] {
			t.Fatalf("the result %+v shares memory with %+v or within itself", result, arguments)
		}
		taken[cell] = true
	}
}

// checkGet checks the answer of Get, and that it leaves its arguments.
func checkGet(t *testing.T, v api.Value, p []api.Step, want api.Value, found bool) {
	t.Helper()
	before, path := copied(v), slices.Clone(p)
	got, ok := Get(v, p)
	if ok != found || !same(got, want) {
		t.Errorf("Get(%+v, %+v) = %+v, %v; want %+v, %v", v, p, got, ok, want, found)
	}
	checkApart(t, got, v)
	if !same(v, before) || !slices.Equal(p, path) {
		t.Fatalf("Get changed %+v, %+v to %+v, %+v", before, path, v, p)
	}
}

// checkSet checks the answer of Set, and that it leaves its arguments.
func checkSet(t *testing.T, v api.Value, p []api.Step, x, want api.Value) {
	t.Helper()
	checkSetResult(t, v, p, x, want, api.OK)
}

func checkSetError(t *testing.T, v api.Value, p []api.Step, x api.Value, code api.Errno) {
	t.Helper()
	checkSetResult(t, v, p, x, api.Value{}, code)
}

func checkSetResult(t *testing.T, v api.Value, p []api.Step, x, want api.Value, code api.Errno) {
	t.Helper()
	beforeV, beforeX, path := copied(v), copied(x), slices.Clone(p)
	got, e := Set(v, p, x)
	if e != code || !same(got, want) {
		t.Errorf("Set(%+v, %+v, %+v) = %+v, %d; want %+v, %d", v, p, x, got, e, want, code)
	}
	checkApart(t, got, v, x)
	if !same(v, beforeV) || !same(x, beforeX) || !slices.Equal(p, path) {
		t.Fatalf("Set changed %+v, %+v, %+v to %+v, %+v, %+v", beforeV, path, beforeX, v, p, x)
	}
}

// checkRemove checks the answer of Remove, and that it leaves its arguments.
func checkRemove(t *testing.T, v api.Value, p []api.Step, want api.Value, found bool) {
	t.Helper()
	before, path := copied(v), slices.Clone(p)
	got, ok := Remove(v, p)
	if ok != found || !same(got, want) {
		t.Errorf("Remove(%+v, %+v) = %+v, %v; want %+v, %v", v, p, got, ok, want, found)
	}
	checkApart(t, got, v)
	if !same(v, before) || !slices.Equal(p, path) {
		t.Fatalf("Remove changed %+v, %+v to %+v, %+v", before, path, v, p)
	}
}

// checkMissing checks that Get and Remove find nothing.
func checkMissing(t *testing.T, v api.Value, p []api.Step) {
	t.Helper()
	checkGet(t, v, p, api.Value{}, false)
	checkRemove(t, v, p, api.Value{}, false)
}

func TestTreeExamples(t *testing.T) { // P6.2
	v := fields(field("c", list(fields(field("n", number(1)), field("name", text("x"))))))
	checkGet(t, v, steps("c", key("name", "x"), "n"), number(1), true)
	checkSet(t, v, steps("c", key("name", "y"), "n"), number(2),
		fields(field("c", list(v.Fields[0].V.List[0], fields(field("n", number(2)), field("name", text("y")))))))
	checkSetError(t, v, steps("c", key("name", "x"), "name"), text("z"), api.ErrType)
	l := fields(field("l", list(number(1))))
	checkSet(t, l, steps("l", 1), number(2), fields(field("l", list(number(1), number(2)))))
	checkSetError(t, l, steps("l", 2), number(2), api.ErrRange)
	checkRemove(t, fields(field("l", list(number(1), number(2)))), steps("l", 0), fields(field("l", list(number(2)))), true)
	checkSet(t, fields(), steps("a", "b"), number(1), fields(field("a", fields(field("b", number(1))))))
	checkSetError(t, fields(), steps("a", 0), number(1), api.ErrType)
}

// oddValues are values that are not valid, each for one reason.
func oddValues() []api.Value {
	return []api.Value{
		{Kind: -1}, {Kind: 6}, {Kind: math.MaxInt}, {N: 1}, {S: "a"}, {List: []api.Value{{}}}, {Fields: []api.Field{field("a", api.Value{})}},
		{Kind: api.VBool, N: 2}, number(api.MaxNumber + 1), number(math.MinInt), text("\x00"), text("é"), text(letters(201)), {Kind: api.VString, S: "x", N: 1},
		many(65), {Kind: api.VList, N: 1}, manyFields(65), {Kind: api.VMap, S: "a"}, fields(field("", number(1))), fields(field("a b", number(1))), fields(field(letters(41), number(1))),
		fields(field("b", number(1)), field("a", number(1))), fields(field("a", number(1)), field("a", number(1))), nested(13), ofSize(601),
	}
}

func TestGet(t *testing.T) { // P6.2
	inner := fields(field("c", list(number(1), list(number(2), text("x")))))
	v := fields(field("a", inner), field("b", api.Value{}))
	checkGet(t, v, nil, v, true)
	checkGet(t, v, steps(), v, true)
	checkGet(t, v, steps("a"), inner, true)
	checkGet(t, v, steps("b"), api.Value{}, true)
	checkGet(t, v, steps("a", "c"), inner.Fields[0].V, true)
	checkGet(t, v, steps("a", "c", 0), number(1), true)
	checkGet(t, v, steps("a", "c", 1), list(number(2), text("x")), true)
	checkGet(t, v, steps("a", "c", 1, 1), text("x"), true)
	for _, p := range [][]api.Step{steps("c"), steps("A"), steps("a", "a"), steps("a", "c", 2), steps("a", "c", 64), steps("a", "c", 1, 2), steps("a", 0), steps("a", "c", "c"), steps("a", "c", 0, 0), steps("a", "c", 0, "a"), steps("a", "c", 1, 1, "x"), steps("b", "a"), steps("b", 0), steps("b", key("k", "x")), steps(0), steps(key("a", "")), steps("a", "b", "c")} {
		checkMissing(t, v, p)
	}
	for _, scalar := range []api.Value{{}, number(0), text("a"), {Kind: api.VBool}} {
		checkGet(t, scalar, nil, scalar, true)
		for _, s := range []api.Step{name("a"), index(0), key("a", ""), key("k", "x")} {
			checkMissing(t, scalar, steps(s))
		}
	}
	checkMissing(t, list(), steps(0))
	checkMissing(t, fields(), steps("a"))
	checkGet(t, list(api.Value{}), steps(0), api.Value{}, true)
	checkGet(t, many(64), steps(63), api.Value{}, true)
	checkMissing(t, many(64), steps(64))
	checkGet(t, many(65), steps(64), api.Value{}, true)
	checkGet(t, nested(12), names(11), api.Value{}, true)
	checkMissing(t, nested(12), names(12))
	checkGet(t, nested(17), names(16), api.Value{}, true)
	checkMissing(t, nested(18), names(17))
}

func TestGetByKey(t *testing.T) { // P6.2
	v := list(keyed("x", 1), keyed("y", 2), keyed("x", 3), keyed("", 4), keyed("a\n\"\\", 5))
	checkGet(t, v, steps(key("k", "x")), keyed("x", 1), true)
	checkGet(t, v, steps(key("k", "x"), "n"), number(1), true)
	checkGet(t, v, steps(key("k", "y"), "n"), number(2), true)
	checkGet(t, v, steps(key("k", ""), "n"), number(4), true)
	checkGet(t, v, steps(key("k", "a\n\"\\"), "n"), number(5), true)
	checkGet(t, v, steps(key("k", "y"), "k"), text("y"), true)
	checkMissing(t, v, steps(key("k", "z")))
	checkMissing(t, v, steps(key("k", "X")))
	checkMissing(t, v, steps(key("l", "x")))
	checkMissing(t, v, steps(key("n", "1")))
	checkMissing(t, v, steps(key("k", "x"), "m"))
	checkMissing(t, list(), steps(key("k", "x")))
	checkMissing(t, keyed("x", 1), steps(key("k", "x")))
	// Elements that are not maps, and such whose key field is missing or not a string, are passed over.
	others := []api.Value{{}, number(1), text("x"), list(keyed("x", 1)), fields(), fields(field("l", text("x"))), fields(field("k", api.Value{})), fields(field("k", number(0))), fields(field("k", list(text("x")))), fields(field("k", fields(field("k", text("x"))))), keyed("xx", 1), {Kind: api.VList, Fields: keyed("x", 1).Fields}, {Fields: keyed("x", 1).Fields}, {Kind: 6, Fields: keyed("x", 1).Fields}, {Kind: api.VString, S: "x", Fields: keyed("x", 1).Fields}, fields(field("k", api.Value{Kind: api.VInt, S: "x"})), fields(field("k", api.Value{S: "x"}))}
	checkMissing(t, list(others...), steps(key("k", "x")))
	checkMissing(t, list(others...), steps(key("k", "")))
	checkGet(t, list(append(others, keyed("x", 7))...), steps(key("k", "x"), "n"), number(7), true)
	checkGet(t, list(list(keyed("x", 1)), keyed("y", 0)), steps(0, key("k", "x"), "n"), number(1), true)
}

func TestGetOfInvalidValues(t *testing.T) { // P6.2
	for _, v := range oddValues() {
		checkGet(t, v, nil, v, true)
		checkGet(t, list(v), steps(0), v, true)
		checkGet(t, fields(field("a", v)), steps("a"), v, true)
	}
	// Of several fields with one name the first one counts, wherever it stands.
	v := fields(field("b", number(1)), field("a", list(number(2))), field("b", list(number(3))), field("a", number(4)))
	checkGet(t, v, steps("a"), list(number(2)), true)
	checkGet(t, v, steps("b"), number(1), true)
	checkGet(t, v, steps("a", 0), number(2), true)
	checkMissing(t, v, steps("b", 0))
	twice := fields(field("n", number(1)), field("k", text("x")), field("k", text("y")))
	checkGet(t, list(twice), steps(key("k", "x")), twice, true)
	checkMissing(t, list(twice), steps(key("k", "y")))
	checkGet(t, list(twice, keyed("y", 2)), steps(key("k", "y"), "n"), number(2), true)
	checkMissing(t, list(fields(field("k", number(1)), field("k", text("x")))), steps(key("k", "x")))
	// A string is the key whatever its N, and what it has besides.
	odd := fields(field("k", api.Value{Kind: api.VString, S: "x", N: 7, List: []api.Value{{}}, Fields: keyed("x", 1).Fields}))
	checkGet(t, list(odd), steps(key("k", "x")), odd, true)
	checkGet(t, list(odd), steps(key("k", "x"), "k"), odd.Fields[0].V, true)
	// Only maps have fields, and only lists elements, whatever the members.
	for _, kind := range []int{math.MinInt, -1, 0, 1, 2, 3, 4, 5, 6, math.MaxInt} {
		both := api.Value{Kind: kind, N: 7, S: "s", List: []api.Value{keyed("x", 1)}, Fields: []api.Field{field("a", number(1))}}
		checkGet(t, both, nil, both, true)
		if kind == api.VMap {
			checkGet(t, both, steps("a"), number(1), true)
		} else {
			checkMissing(t, both, steps("a"))
		}
		if kind == api.VList {
			checkGet(t, both, steps(0), keyed("x", 1), true)
			checkGet(t, both, steps(key("k", "x")), keyed("x", 1), true)
		} else {
			checkMissing(t, both, steps(0))
			checkMissing(t, both, steps(key("k", "x")))
		}
	}
}

func TestInvalidPaths(t *testing.T) { // P6.2
	for _, s := range oddSteps() {
		for _, v := range []api.Value{fields(field(s.Name, number(1)), field("a", number(1))), list(number(1), fields(field(s.Name, text(s.Value))), fields(field("a", text("a"))))} {
			checkMissing(t, v, steps(s))
			checkMissing(t, list(v), steps(0, s))
			checkSetError(t, fields(), steps(s), number(1), api.ErrInvalid)
			checkSetError(t, list(), steps(0, "a", s), number(1), api.ErrInvalid)
			checkSetError(t, many(64), steps(s), number(1), api.ErrInvalid)
		}
	}
	checkMissing(t, nested(20), names(17))
	checkSetError(t, fields(), names(17), number(1), api.ErrInvalid)
	checkGet(t, nested(20), names(16), nested(4), true)
}

func TestSetFields(t *testing.T) { // P6.2
	v := fields(field("b", number(1)), field("d", fields(field("e", number(2)))))
	checkSet(t, v, nil, number(9), number(9))
	checkSet(t, v, steps(), list(v), list(v))
	checkSet(t, number(1), steps(), api.Value{}, api.Value{})
	checkSet(t, v, steps("b"), text("x"), fields(field("b", text("x")), v.Fields[1]))
	checkSet(t, v, steps("b"), api.Value{}, fields(field("b", api.Value{}), v.Fields[1]))
	checkSet(t, v, steps("a"), number(9), fields(field("a", number(9)), v.Fields[0], v.Fields[1]))
	checkSet(t, v, steps("c"), number(9), fields(v.Fields[0], field("c", number(9)), v.Fields[1]))
	checkSet(t, v, steps("dd"), number(9), fields(v.Fields[0], v.Fields[1], field("dd", number(9))))
	checkSet(t, v, steps("B"), number(9), fields(field("B", number(9)), v.Fields[0], v.Fields[1]))
	checkSet(t, v, steps("d", "e"), number(9), fields(v.Fields[0], field("d", fields(field("e", number(9))))))
	checkSet(t, v, steps("d", "a"), number(9), fields(v.Fields[0], field("d", fields(field("a", number(9)), field("e", number(2))))))
	checkSet(t, v, steps("d"), fields(), fields(v.Fields[0], field("d", fields())))
	checkSet(t, v, steps("a", "b", "c"), number(9), fields(field("a", fields(field("b", fields(field("c", number(9)))))), v.Fields[0], v.Fields[1]))
	checkSet(t, fields(), names(11), number(9), setLeaf(nested(12), number(9)))
	for _, other := range []api.Value{{}, number(1), text("a"), list(), list(fields()), {Kind: api.VBool, N: 1}} {
		checkSetError(t, other, steps("a"), number(9), api.ErrType)
		checkSetError(t, fields(field("a", other)), steps("a", "a"), number(9), api.ErrType)
		checkSetError(t, fields(field("a", other)), steps("a", "a", 0), number(9), api.ErrType)
		checkSetError(t, list(other), steps(0, "a", "b"), number(9), api.ErrType)
	}
}

// setLeaf puts x in the place of the innermost value of maps in one another.
func setLeaf(v, x api.Value) api.Value {
	if v.Kind != api.VMap {
		return x
	}
	return fields(field("a", setLeaf(v.Fields[0].V, x)))
}

func TestSetIndexes(t *testing.T) { // P6.2
	l := list(number(1), list(number(2)), fields())
	checkSet(t, l, steps(0), text("x"), list(text("x"), l.List[1], l.List[2]))
	checkSet(t, l, steps(1), text("x"), list(l.List[0], text("x"), l.List[2]))
	checkSet(t, l, steps(1, 0), text("x"), list(l.List[0], list(text("x")), l.List[2]))
	checkSet(t, l, steps(1, 1), text("x"), list(l.List[0], list(number(2), text("x")), l.List[2]))
	checkSet(t, l, steps(2, "a"), text("x"), list(l.List[0], l.List[1], fields(field("a", text("x")))))
	checkSet(t, l, steps(3), text("x"), list(append(slices.Clone(l.List), text("x"))...))
	checkSet(t, l, steps(3), l, list(append(slices.Clone(l.List), l)...))
	checkSet(t, l, steps(3, "a", "b"), text("x"), list(append(slices.Clone(l.List), fields(field("a", fields(field("b", text("x"))))))...))
	checkSet(t, list(), steps(0), text("x"), list(text("x")))
	checkSet(t, list(), steps(0, "a"), text("x"), list(fields(field("a", text("x")))))
	for n := 4; n <= 64; n++ {
		checkSetError(t, l, steps(n), text("x"), api.ErrRange)
		checkSetError(t, l, steps(n, 0, "a", 0), text("x"), api.ErrRange)
	}
	checkSetError(t, list(), steps(1), text("x"), api.ErrRange)
	checkSetError(t, l, steps(1, 2), text("x"), api.ErrRange)
	for _, other := range []api.Value{{}, number(1), text("a"), fields(), fields(field("0", number(1))), {Kind: api.VBool, N: 1}} {
		for _, n := range []int{0, 1, 64} {
			checkSetError(t, other, steps(n), number(9), api.ErrType)
			checkSetError(t, list(other), steps(0, n), number(9), api.ErrType)
			checkSetError(t, fields(field("a", other)), steps("a", n, "b"), number(9), api.ErrType)
		}
	}
}

func TestSetKeys(t *testing.T) { // P6.2
	l := list(number(1), keyed("x", 1), keyed("y", 2), keyed("x", 3))
	with := func(i int, x api.Value) api.Value {
		other := copied(l)
		other.List[i] = x
		return other
	}
	and := func(x api.Value) api.Value { return list(append(slices.Clone(l.List), x)...) }
	checkSet(t, l, steps(key("k", "x"), "n"), number(9), with(1, keyed("x", 9)))
	checkSet(t, l, steps(key("k", "y"), "n"), number(9), with(2, keyed("y", 9)))
	checkSet(t, l, steps(key("k", "y"), "m"), number(9), with(2, fields(field("k", text("y")), field("m", number(9)), field("n", number(2)))))
	checkSet(t, l, steps(key("k", "y"), "m", "o"), number(9), with(2, fields(field("k", text("y")), field("m", fields(field("o", number(9)))), field("n", number(2)))))
	checkSet(t, l, steps(key("k", "y")), keyed("y", 9), with(2, keyed("y", 9)))
	checkSet(t, l, steps(key("k", "y")), keyed("y", 0), with(2, keyed("y", 0)))
	checkSet(t, l, steps(key("k", "z")), keyed("z", 9), and(keyed("z", 9)))
	checkSet(t, l, steps(key("k", "z"), "n"), number(9), and(keyed("z", 9)))
	checkSet(t, l, steps(key("k", ""), "a", "b"), number(9), and(fields(field("a", fields(field("b", number(9)))), field("k", text("")))))
	checkSet(t, l, steps(key("l", "x"), "k"), text("x"), and(fields(field("k", text("x")), field("l", text("x")))))
	checkSet(t, l, steps(key("n", "1"), "n"), text("1"), and(fields(field("n", text("1")))))
	checkSet(t, list(), steps(key("k", "x"), "n"), number(9), list(keyed("x", 9)))
	checkSet(t, list(), steps(key("k", "x")), keyed("x", 9), list(keyed("x", 9)))
	checkSet(t, list(list()), steps(0, key("k", "x"), "n"), number(9), list(list(keyed("x", 9))))
	// The key field may be set to what it is.
	checkSet(t, l, steps(key("k", "y"), "k"), text("y"), l)
	checkSet(t, l, steps(key("k", "z"), "k"), text("z"), and(keyed("z", 0)))
	for _, other := range []api.Value{{}, number(1), text("a"), fields(), keyed("x", 1), {Kind: api.VBool, N: 1}} {
		checkSetError(t, other, steps(key("k", "x")), keyed("x", 1), api.ErrType)
		checkSetError(t, list(other), steps(0, key("k", "x")), keyed("x", 1), api.ErrType)
		checkSetError(t, fields(field("a", other)), steps("a", key("k", "x"), "n"), number(1), api.ErrType)
	}
}

func TestSetPassesOverOtherElements(t *testing.T) { // P6.2
	others := list(api.Value{}, text("x"), list(keyed("x", 1)), fields(), fields(field("k", api.Value{})), fields(field("k", number(1))), fields(field("k", list(text("x")))), fields(field("l", text("x"))), keyed("y", 1))
	checkSet(t, others, steps(key("k", "x"), "n"), number(9), list(append(slices.Clone(others.List), keyed("x", 9))...))
	checkSet(t, list(append(slices.Clone(others.List), keyed("x", 1), keyed("x", 2))...), steps(key("k", "x"), "n"), number(9), list(append(slices.Clone(others.List), keyed("x", 9), keyed("x", 2))...))
}

func TestSetKeepsKeys(t *testing.T) { // P6.2
	// The second element with the key does not make up for the first one, whose key is lost.
	l := list(keyed("x", 1), keyed("y", 2), keyed("x", 3))
	for _, x := range []api.Value{{}, number(1), text("x"), text("y"), list(keyed("x", 1)), fields(), fields(field("n", number(1))), keyed("y", 1), keyed("", 0), fields(field("k", api.Value{})), fields(field("k", number(0))), fields(field("k", list())), fields(field("k", fields(field("k", text("x"))))), fields(field("K", text("x")))} {
		checkSetError(t, l, steps(key("k", "x")), x, api.ErrType)
		checkSetError(t, l, steps(key("k", "z")), x, api.ErrType)
		checkSetError(t, list(), steps(key("k", "z")), x, api.ErrType)
		checkSetError(t, fields(field("a", l)), steps("a", key("k", "x")), x, api.ErrType)
		checkSetError(t, list(l), steps(0, key("k", "x")), x, api.ErrType)
		if x.Kind != api.VString || x.S != "x" {
			checkSetError(t, l, steps(key("k", "x"), "k"), x, api.ErrType)
			checkSetError(t, list(), steps(key("k", "x"), "k"), x, api.ErrType)
		}
	}
	checkSetError(t, l, steps(key("k", "x"), "k", "a"), text("x"), api.ErrType)
	checkSetError(t, l, steps(key("k", "x"), "k", 0), text("x"), api.ErrType)
	// Each of several keys must stay, the outer ones too.
	deep := list(fields(field("k", text("x")), field("l", list(keyed("y", 1)))))
	checkSet(t, deep, steps(key("k", "x"), "l", key("k", "y"), "n"), number(9), list(fields(field("k", text("x")), field("l", list(keyed("y", 9))))))
	checkSet(t, deep, steps(key("k", "x"), "l", key("k", "z")), keyed("z", 9), list(fields(field("k", text("x")), field("l", list(keyed("y", 1), keyed("z", 9))))))
	checkSetError(t, deep, steps(key("k", "x"), "l", key("k", "y"), "k"), text("z"), api.ErrType)
	checkSetError(t, deep, steps(key("k", "x"), "l", key("k", "y")), number(9), api.ErrType)
	checkSetError(t, deep, steps(key("k", "x"), "k"), text("y"), api.ErrType)
	checkSet(t, deep, steps(key("k", "x"), "l"), number(9), list(fields(field("k", text("x")), field("l", number(9)))))
}

func TestSetBehindWhatIsCreated(t *testing.T) { // P6.2
	for _, s := range []api.Step{index(0), index(1), index(64), key("k", "x"), key("k", "z")} {
		checkSetError(t, fields(), steps("a", s), keyed("x", 1), api.ErrType)
		checkSetError(t, fields(), steps("a", "b", s), keyed("x", 1), api.ErrType)
		checkSetError(t, list(), steps(0, s), keyed("x", 1), api.ErrType)
		checkSetError(t, list(number(1)), steps(1, s, "a"), keyed("x", 1), api.ErrType)
		checkSetError(t, list(), steps(key("k", "x"), s), keyed("x", 1), api.ErrType)
		checkSetError(t, list(), steps(key("k", "x"), "k", s), keyed("x", 1), api.ErrType)
	}
	checkSetError(t, list(), steps(key("k", "x"), "k", "a"), text("x"), api.ErrType)
	checkSet(t, list(), steps(key("k", "x"), "a", "b"), number(9), list(fields(field("a", fields(field("b", number(9)))), field("k", text("x")))))
}

func TestSetRefusesInvalidValues(t *testing.T) { // P6.2
	for _, odd := range oddValues() {
		checkSetError(t, odd, nil, number(1), api.ErrInvalid)
		checkSetError(t, odd, steps("a"), number(1), api.ErrInvalid)
		checkSetError(t, odd, steps(0), number(1), api.ErrInvalid)
		checkSetError(t, fields(field("a", number(1)), field("b", odd)), steps("a"), number(1), api.ErrInvalid)
		checkSetError(t, list(odd), steps(0), number(1), api.ErrInvalid)
		checkSetError(t, fields(), nil, odd, api.ErrInvalid)
		checkSetError(t, fields(), steps("a"), odd, api.ErrInvalid)
		checkSetError(t, list(), steps(1), odd, api.ErrInvalid)
		checkSetError(t, list(), steps("a"), odd, api.ErrInvalid)
		checkSetError(t, list(), steps(key("k", "x")), list(odd), api.ErrInvalid)
	}
}

func TestSetLimits(t *testing.T) { // P6.2
	checkSet(t, many(63), steps(63), number(1), list(append(make([]api.Value, 63), number(1))...))
	checkSetError(t, many(64), steps(64), number(1), api.ErrTooLong)
	checkSetError(t, many(63), steps(64), number(1), api.ErrRange)
	checkSetError(t, many(64), steps(64, "a"), number(1), api.ErrTooLong)
	checkSet(t, many(63), steps(key("k", "x")), keyed("x", 1), list(append(make([]api.Value, 63), keyed("x", 1))...))
	checkSetError(t, many(64), steps(key("k", "x")), keyed("x", 1), api.ErrTooLong)
	checkSetError(t, many(64), steps(key("k", "x"), "n"), number(1), api.ErrTooLong)
	last := list(append(make([]api.Value, 63), keyed("x", 1))...)
	checkSet(t, last, steps(key("k", "x"), "n"), number(9), list(append(make([]api.Value, 63), keyed("x", 9))...))
	checkSet(t, manyFields(63), steps("g"), api.Value{}, fields(append(manyFields(63).Fields, field("g", api.Value{}))...))
	checkSetError(t, manyFields(64), steps("g"), number(1), api.ErrTooLong)
	checkSetError(t, list(manyFields(64)), steps(0, "a", "b"), number(1), api.ErrTooLong)
	checkSet(t, manyFields(64), steps("f73"), api.Value{}, manyFields(64))
	full := manyFields(63)
	full.Fields = append(full.Fields, field("k", text("x")))
	checkSetError(t, list(full), steps(key("k", "x"), "n"), number(1), api.ErrTooLong)
}

func TestSetDepth(t *testing.T) { // P6.2
	for n := range 17 {
		for _, levels := range []int{1, 2, 12} {
			if n+levels <= 12 {
				checkSet(t, fields(), names(n), nested(levels), nested(n+levels))
			} else {
				checkSetError(t, fields(), names(n), nested(levels), api.ErrTooLong)
			}
		}
		if n > 0 {
			checkSetError(t, fields(), append(names(min(n, 15)), index(0)), number(1), api.ErrType)
		}
	}
	checkSet(t, nested(12), names(11), number(1), setLeaf(nested(12), number(1)))
	checkSetError(t, nested(12), names(11), fields(field("a", number(1))), api.ErrTooLong)
	checkSetError(t, nested(12), names(12), number(1), api.ErrType)
	checkSet(t, nested(12), names(1), number(1), fields(field("a", number(1))))
}

func TestSetSize(t *testing.T) { // P6.2
	for n := 588; n <= 600; n++ {
		v := ofSize(n)
		elements := len(v.List[9].List)
		if n < 600 {
			checkSet(t, v, steps(9, elements), api.Value{}, ofSize(n+1))
		} else {
			checkSetError(t, v, steps(9, elements), api.Value{}, api.ErrTooLong)
		}
		if n < 599 {
			checkSet(t, v, steps(9, elements), list(api.Value{}), list(append(ofSize(n).List[:9:9], list(append(v.List[9].List, list(api.Value{}))...))...))
		} else {
			checkSetError(t, v, steps(9, elements), list(api.Value{}), api.ErrTooLong)
		}
		checkSet(t, v, steps(9), api.Value{}, list(append(ofSize(n).List[:9:9], api.Value{})...))
		checkSet(t, v, steps(0, 0), number(1), func() api.Value { w := copied(v); w.List[0].List[0] = number(1); return w }())
		checkSet(t, fields(), nil, v, v)
		if n < 600 {
			checkSet(t, fields(), steps("a"), v, fields(field("a", v)))
		} else {
			checkSetError(t, fields(), steps("a"), v, api.ErrTooLong)
		}
	}
	// An element that a key step appends has two values at least.
	checkSetError(t, ofSize(598), steps(9, key("k", "x"), "n"), number(1), api.ErrTooLong)
	w, e := Set(ofSize(597), steps(9, key("k", "x"), "n"), number(1))
	if e != api.OK || value.Size(w) != 600 {
		t.Errorf("a value of %d values, %d", value.Size(w), e)
	}
}

func TestSetOrderOfErrors(t *testing.T) { // P6.2
	// The first step that can't be taken counts, before a key that is lost and a result that is too long.
	l := list(keyed("x", 1), number(1))
	checkSetError(t, l, steps(1, 5), number(1), api.ErrType)
	checkSetError(t, l, steps(5, 1), number(1), api.ErrRange)
	checkSetError(t, list(list()), steps(0, 2, "a", 0), number(1), api.ErrRange)
	checkSetError(t, list(list()), steps(0, "a", 2), number(1), api.ErrType)
	checkSetError(t, list(fields(field("k", text("x")), field("l", list()))), steps(key("k", "x"), "l", 1), number(1), api.ErrRange)
	checkSetError(t, many(64), steps(key("k", "x"), "a", 0), number(1), api.ErrType)
	checkSetError(t, many(64), steps(key("k", "x"), "k"), text("y"), api.ErrType)
	checkSetError(t, many(64), steps(key("k", "x")), number(1), api.ErrType)
	checkSetError(t, many(64), steps(64, 0), number(1), api.ErrType)
	checkSetError(t, many(64), steps(64), nested(12), api.ErrTooLong)
	checkSetError(t, list(), steps(key("k", "x")), nested(12), api.ErrType)
	checkSetError(t, list(), steps(key("k", "x"), "k"), nested(12), api.ErrType)
	checkSetError(t, list(), append(steps(key("k", "x")), names(15)...), number(1), api.ErrTooLong)
	for _, odd := range oddValues() {
		checkSetError(t, odd, steps(key("k", "x")), number(1), api.ErrInvalid)
		checkSetError(t, many(64), steps(64), odd, api.ErrInvalid)
		checkSetError(t, l, steps(5), odd, api.ErrInvalid)
	}
}

func TestRemove(t *testing.T) { // P6.2
	v := fields(field("a", list(number(1), number(2), number(3))), field("b", fields(field("c", number(4)), field("d", number(5)))), field("e", api.Value{}))
	checkRemove(t, v, nil, api.Value{}, false)
	checkRemove(t, v, steps(), api.Value{}, false)
	checkRemove(t, v, steps("a"), fields(v.Fields[1], v.Fields[2]), true)
	checkRemove(t, v, steps("b"), fields(v.Fields[0], v.Fields[2]), true)
	checkRemove(t, v, steps("e"), fields(v.Fields[0], v.Fields[1]), true)
	checkRemove(t, v, steps("a", 0), fields(field("a", list(number(2), number(3))), v.Fields[1], v.Fields[2]), true)
	checkRemove(t, v, steps("a", 1), fields(field("a", list(number(1), number(3))), v.Fields[1], v.Fields[2]), true)
	checkRemove(t, v, steps("a", 2), fields(field("a", list(number(1), number(2))), v.Fields[1], v.Fields[2]), true)
	checkRemove(t, v, steps("b", "c"), fields(v.Fields[0], field("b", fields(field("d", number(5)))), v.Fields[2]), true)
	checkRemove(t, v, steps("b", "d"), fields(v.Fields[0], field("b", fields(field("c", number(4)))), v.Fields[2]), true)
	checkRemove(t, list(number(1)), steps(0), list(), true)
	checkRemove(t, list(list(number(1)), number(2)), steps(0, 0), list(list(), number(2)), true)
	checkRemove(t, fields(field("a", number(1))), steps("a"), fields(), true)
	for _, p := range [][]api.Step{steps("c"), steps("a", 3), steps("a", "b"), steps("b", 0), steps("b", "e"), steps("e", "e"), steps("a", 0, 0), steps(0), steps("b", "c", "d"), steps("a", key("k", "x"))} {
		checkMissing(t, v, p)
	}
	l := list(number(1), keyed("x", 1), keyed("y", 2), keyed("x", 3))
	checkRemove(t, l, steps(key("k", "x")), list(number(1), keyed("y", 2), keyed("x", 3)), true)
	checkRemove(t, l, steps(key("k", "y")), list(number(1), keyed("x", 1), keyed("x", 3)), true)
	checkRemove(t, l, steps(key("k", "x"), "n"), list(number(1), keyed("x", 0), keyed("y", 2), keyed("x", 3)), true)
	checkRemove(t, l, steps(key("k", "x"), "k"), list(number(1), fields(field("n", number(1))), keyed("y", 2), keyed("x", 3)), true)
	checkMissing(t, l, steps(key("k", "z")))
	checkMissing(t, l, steps(key("k", "x"), "m"))
}

func TestRemoveFromInvalidValues(t *testing.T) { // P6.2
	// Only the first of the fields with the name goes, and the others stay in their order.
	v := fields(field("b", number(1)), field("a", list(number(2))), field("b", list(number(3))), field("a", number(4)), field("", number(5)))
	checkRemove(t, v, steps("b"), fields(v.Fields[1], v.Fields[2], v.Fields[3], v.Fields[4]), true)
	checkRemove(t, v, steps("a"), fields(v.Fields[0], v.Fields[2], v.Fields[3], v.Fields[4]), true)
	checkRemove(t, v, steps("a", 0), fields(v.Fields[0], field("a", list()), v.Fields[2], v.Fields[3], v.Fields[4]), true)
	checkMissing(t, v, steps("b", 0))
	checkRemove(t, list(v, v), steps(1, "b"), list(v, fields(v.Fields[1:]...)), true)
	twice := fields(field("n", number(1)), field("k", text("x")), field("k", text("y")))
	checkRemove(t, list(twice), steps(key("k", "x"), "k"), list(fields(twice.Fields[0], twice.Fields[2])), true)
	checkRemove(t, list(twice, keyed("y", 1)), steps(key("k", "y")), list(twice), true)
	// What the kind does not use stays as it is.
	both := api.Value{Kind: api.VMap, N: 7, S: "s", List: []api.Value{number(1)}, Fields: []api.Field{field("a", number(1)), field("a", number(2))}}
	checkRemove(t, both, steps("a"), api.Value{Kind: api.VMap, N: 7, S: "s", List: both.List, Fields: both.Fields[1:]}, true)
	both.Kind = api.VList
	checkRemove(t, both, steps(0), api.Value{Kind: api.VList, N: 7, S: "s", Fields: both.Fields}, true)
	for _, odd := range oddValues() {
		checkRemove(t, list(odd, number(1)), steps(1), list(odd), true)
		checkRemove(t, list(odd, number(1)), steps(0), list(number(1)), true)
		checkRemove(t, fields(field("b", odd), field("a", odd)), steps("a"), fields(field("b", odd)), true)
	}
}

func TestTreesShareNothing(t *testing.T) { // P2
	// The same list stands in several places of the arguments, and in none of those of a result.
	shared := list(number(1), fields(field("a", number(2))))
	v := list(shared, shared, fields(field("l", shared)))
	checkGet(t, v, nil, v, true)
	checkGet(t, v, steps(2), v.List[2], true)
	checkSet(t, v, nil, v, v)
	checkSet(t, v, steps(3), v, list(shared, shared, v.List[2], v))
	checkSet(t, v, steps(2, "l"), shared, v)
	checkSet(t, v, steps(2, "m"), shared, list(shared, shared, fields(field("l", shared), field("m", shared))))
	checkRemove(t, v, steps(0), list(shared, v.List[2]), true)
	// Spare room behind a slice is not written to.
	roomy := list(append(make([]api.Value, 0, 8), number(1))...)
	roomy.List[:8][1] = number(7)
	checkSet(t, roomy, steps(1), number(2), list(number(1), number(2)))
	checkSet(t, roomy, steps(key("k", "x")), keyed("x", 0), list(number(1), keyed("x", 0)))
	if roomy.List[:8][1].N != 7 {
		t.Error("Set wrote behind the end of a list")
	}
	result, _ := Get(v, steps(0))
	result.List[0] = text("spoiled")
	result.List[1].Fields[0].Name = "spoiled"
	checkGet(t, v, steps(0), list(number(1), fields(field("a", number(2)))), true)
}

func TestTreesOfAnything(t *testing.T) { // P1
	deep := nested(1 << 16)
	if v, ok := Get(deep, names(16)); !ok || value.Depth(v) != 1<<16-16 {
		t.Error("a deep value is not found")
	}
	if v, ok := Remove(fields(field("a", deep), field("b", deep)), steps("a")); !ok || value.Depth(v) != 1<<16+1 {
		t.Error("a deep value is not removed from")
	}
	if v, ok := Remove(deep, names(16)); !ok || value.Depth(v) != 16 {
		t.Error("a deep value is not removed")
	}
	checkDeepSet(t, deep, number(1))
	checkDeepSet(t, number(1), deep)
	// What is not on the way is not gone through, however much it is.
	huge := api.Value{}
	for range 11 {
		huge = list(slices.Repeat([]api.Value{huge}, 64)...)
	}
	if v, ok := Get(fields(field("a", huge), field("b", number(1))), steps("b")); !ok || v.N != 1 {
		t.Error("a field beside a huge value is not found")
	}
	checkDeepSet(t, huge, number(1))
	checkDeepSet(t, number(1), huge)
	r := rand.New(rand.NewSource(1))
	for range 20000 {
		v, p := randomTree(r, 4, false), steps()
		for range r.Intn(18) {
			p = append(p, randomStep(r))
		}
		if !expectValid(p) {
			checkMissing(t, v, p)
			checkSetError(t, v, p, v, api.ErrInvalid)
		}
	}
}

// checkDeepSet checks that Set refuses a value; checkSetError would copy it.
func checkDeepSet(t *testing.T, v, x api.Value) {
	t.Helper()
	for _, p := range [][]api.Step{nil, steps("a"), names(16)} {
		if got, e := Set(v, p, x); e != api.ErrInvalid || !same(got, api.Value{}) {
			t.Errorf("Set with a deep or huge value = %d", e)
		}
	}
}
