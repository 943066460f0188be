package patch

import (
	"fmt"
	"reflect"
	"slices"
	"testing"

	"orchestrator/api"
	"orchestrator/value"
)

// The values of the tests are made by hand, so that what a test expects does not come from the functions that are used below.

func null() api.Value { return api.Value{} }

func truth(n int) api.Value { return api.Value{Kind: api.VBool, N: n} }

func number(n int) api.Value { return api.Value{Kind: api.VInt, N: n} }

func text(s string) api.Value { return api.Value{Kind: api.VString, S: s} }

func list(l ...api.Value) api.Value { return api.Value{Kind: api.VList, List: l} }

func fields(f ...api.Field) api.Value { return api.Value{Kind: api.VMap, Fields: f} }

func field(name string, v api.Value) api.Field { return api.Field{Name: name, V: v} }

// one is the map with one field a.
func one(v api.Value) api.Value { return fields(field("a", v)) }

// otherValues are values of all kinds but null and map.
func otherValues() []api.Value {
	return []api.Value{truth(0), truth(1), number(-1), number(0), number(1), text(""), text("x"),
		list(), list(null()), list(fields()), list(null(), number(1), null()), list(one(null()), list(null())), list(one(number(1)), one(one(null())))}
}

// mapValues are maps, some of which are not clean.
func mapValues() []api.Value {
	return []api.Value{fields(), one(null()), one(number(1)), one(list(null())), one(fields()), one(one(null())), one(one(number(1))),
		fields(field("b", number(1))), fields(field("a", null()), field("b", null())), fields(field("a", number(1)), field("b", text("x"))),
		fields(field("a", one(number(2))), field("b", list(one(null()))), field("c", null())), fields(field("b", one(fields(field("c", null()), field("d", fields())))))}
}

// severalValues are values of all kinds.
func severalValues() []api.Value {
	return append(append([]api.Value{null()}, otherValues()...), mapValues()...)
}

// copied copies v; slices that are empty become nil.
func copied(v api.Value) api.Value {
	other := api.Value{Kind: v.Kind, N: v.N, S: v.S}
	for _, one := range v.List {
		other.List = append(other.List, copied(one))
	}
	for _, one := range v.Fields {
		other.Fields = append(other.Fields, field(one.Name, copied(one.V)))
	}
	return other
}

// same reports whether a and b agree in all members, but for the difference of nil and empty.
func same(a, b api.Value) bool { return reflect.DeepEqual(copied(a), copied(b)) }

// cells returns the places in memory that the slices of a value reach, spare ones included.
func cells(v api.Value) []any {
	all := []any{}
	spareList, spareFields := v.List[:cap(v.List)], v.Fields[:cap(v.Fields)]
	for i := range spareList {
		all = append(all, &spareList[i])
	}
	for i := range spareFields {
		all = append(all, &spareFields[i])
	}
	for _, one := range v.List {
		all = append(all, cells(one)...)
	}
	for _, one := range v.Fields {
		all = append(all, cells(one.V)...)
	}
	return all
}

// run calls one of the three functions; it checks that the arguments stay as they were, that the result has memory of its own, each part of it, and that a second call answers the same.
func run(t *testing.T, name string, call func(a, b api.Value) api.Value, a, b api.Value) api.Value {
	t.Helper()
	beforeA, beforeB := copied(a), copied(b)
	got := call(a, b)
	taken := map[any]bool{}
	for _, one := range append(cells(a), cells(b)...) {
		taken[one] = true
	}
	for _, one := range cells(got) {
		if taken[one] {
			t.Fatalf("%s(%+v, %+v) = %+v shares memory with an argument or within itself", name, a, b, got)
		}
		taken[one] = true
	}
	if again := call(a, b); !same(got, again) {
		t.Fatalf("%s(%+v, %+v) = %+v and %+v", name, a, b, got, again)
	}
	if !same(a, beforeA) || !same(b, beforeB) {
		t.Fatalf("%s changed %+v, %+v to %+v, %+v", name, beforeA, beforeB, a, b)
	}
	return got
}

func checkMerge(t *testing.T, v, p, want api.Value) {
	t.Helper()
	if got := run(t, "Merge", Merge, v, p); !same(got, want) {
		t.Errorf("Merge(%+v, %+v) = %+v; want %+v", v, p, got, want)
	}
}

func checkDiff(t *testing.T, a, b, want api.Value) {
	t.Helper()
	if got := run(t, "Diff", Diff, a, b); !same(got, want) {
		t.Errorf("Diff(%+v, %+v) = %+v; want %+v", a, b, got, want)
	}
}

func checkCompose(t *testing.T, p, q, want api.Value) {
	t.Helper()
	if got := run(t, "Compose", Compose, p, q); !same(got, want) {
		t.Errorf("Compose(%+v, %+v) = %+v; want %+v", p, q, got, want)
	}
}

func TestExamples(t *testing.T) { // P9.1
	checkMerge(t, fields(field("a", number(1)), field("b", number(2))), fields(field("a", null()), field("c", fields(field("d", number(3)), field("e", null())))),
		fields(field("b", number(2)), field("c", fields(field("d", number(3))))))
	checkCompose(t, fields(field("a", number(1)), field("b", fields(field("c", number(2))))), fields(field("b", fields(field("d", null())))),
		fields(field("a", number(1)), field("b", fields(field("c", number(2)), field("d", null())))))
	checkDiff(t, fields(field("a", number(1)), field("b", fields(field("c", number(2)), field("d", number(3))))), fields(field("b", fields(field("c", number(2)), field("d", number(4))))),
		fields(field("a", null()), field("b", fields(field("d", number(4))))))
	checkDiff(t, one(list(number(1))), one(list(number(1), number(2))), one(list(number(1), number(2))))
	checkDiff(t, number(1), one(number(2)), one(number(2)))
	checkMerge(t, number(1), one(fields(field("b", null()))), one(fields()))
}

func TestMergeWithWhatIsNotAMap(t *testing.T) { // P9.1
	for _, v := range severalValues() {
		checkMerge(t, v, null(), null())
		for _, p := range otherValues() {
			// At the root, below it and two levels below, beside other fields; be there a field or not.
			checkMerge(t, v, p, p)
			checkMerge(t, one(v), one(p), one(p))
			checkMerge(t, fields(), one(p), one(p))
			checkMerge(t, one(one(v)), one(one(p)), one(one(p)))
			checkMerge(t, fields(field("0", v), field("a", v), field("z", v)), one(p), fields(field("0", v), field("a", p), field("z", v)))
			checkMerge(t, fields(field("0", v), field("z", v)), one(p), fields(field("0", v), field("a", p), field("z", v)))
		}
	}
}

func TestMergeRemovesFields(t *testing.T) { // P9.1
	for _, v := range severalValues() {
		checkMerge(t, one(v), one(null()), fields())
		checkMerge(t, one(one(v)), one(one(null())), one(fields()))
		checkMerge(t, fields(field("0", v), field("a", v), field("z", v)), one(null()), fields(field("0", v), field("z", v)))
		// A field that is not there can't be removed.
		checkMerge(t, fields(field("0", v), field("z", v)), one(null()), fields(field("0", v), field("z", v)))
		checkMerge(t, fields(field("0", v), field("z", v)), fields(field("-", null()), field("00", null()), field("Z", null()), field("zz", null())), fields(field("0", v), field("z", v)))
		checkMerge(t, fields(field("b", v)), one(one(null())), fields(field("a", fields()), field("b", v)))
	}
	checkMerge(t, fields(), one(null()), fields())
	checkMerge(t, fields(), fields(field("a", null()), field("b", null())), fields())
	// The name of a field that is removed is one of its own level only.
	checkMerge(t, fields(field("a", one(number(1))), field("b", one(number(2)))), one(null()), fields(field("b", one(number(2)))))
	checkMerge(t, fields(field("a", one(number(1))), field("b", one(number(2)))), fields(field("b", one(null()))), fields(field("a", one(number(1))), field("b", fields())))
}

func TestMergeKeepsNulls(t *testing.T) { // P9.1
	// Nulls that are in the value and that the patch does not name stay, those beside a change too.
	v := fields(field("a", null()), field("b", fields(field("c", null()), field("d", number(1)))), field("e", list(null(), one(null()))))
	checkMerge(t, v, fields(), v)
	checkMerge(t, v, fields(field("b", fields())), v)
	checkMerge(t, v, fields(field("b", fields(field("d", number(2))))), fields(field("a", null()), field("b", fields(field("c", null()), field("d", number(2)))), field("e", list(null(), one(null())))))
	checkMerge(t, v, fields(field("b", fields(field("c", null())))), fields(field("a", null()), field("b", fields(field("d", number(1)))), field("e", list(null(), one(null())))))
	// Where the patch has a map, a null counts as the empty map.
	checkMerge(t, v, one(fields()), fields(field("a", fields()), v.Fields[1], v.Fields[2]))
	checkMerge(t, v, one(fields(field("x", number(1)), field("y", null()))), fields(field("a", fields(field("x", number(1)))), v.Fields[1], v.Fields[2]))
}

func TestMergeIntoWhatIsNotAMap(t *testing.T) { // P9.1
	p := fields(field("a", null()), field("b", number(1)), field("c", fields(field("d", null()), field("e", list(null(), one(null()))), field("f", one(null())))))
	made := fields(field("b", number(1)), field("c", fields(field("e", list(null(), one(null()))), field("f", fields()))))
	for _, v := range append(otherValues(), null()) {
		checkMerge(t, v, fields(), fields())
		checkMerge(t, v, one(null()), fields())
		checkMerge(t, v, p, made)
		checkMerge(t, one(v), one(fields()), one(fields()))
		checkMerge(t, one(v), one(p), one(made))
		checkMerge(t, v, one(p), one(made))
		checkMerge(t, fields(field("x", v)), one(p), fields(field("a", made), field("x", v)))
		checkMerge(t, one(one(v)), one(one(p)), one(one(made)))
	}
	// Fields of a value that is not a map don't count, even if it has some.
	odd := list(number(1))
	odd.Fields = []api.Field{field("x", number(1))}
	if got := Merge(odd, fields(field("y", number(2)))); !same(got, fields(field("y", number(2)))) {
		t.Errorf("Merge into a list with fields = %+v", got)
	}
}

func TestListsAreReplaced(t *testing.T) { // P9.1
	// Neither the length of a list nor what its elements are matters, and nulls in it remove nothing.
	lists := []api.Value{list(), list(null()), list(number(1)), list(number(1), number(2)), list(null(), number(2)), list(fields()), list(one(number(1))), list(one(null())), list(one(number(1)), one(number(2))), list(list(null()))}
	for _, a := range lists {
		for _, b := range lists {
			checkMerge(t, a, b, b)
			checkMerge(t, one(a), one(b), one(b))
			checkCompose(t, a, b, b)
			checkCompose(t, one(a), one(b), one(b))
			checkDiff(t, a, b, b)
			if same(a, b) {
				checkDiff(t, one(a), one(b), fields())
			} else {
				checkDiff(t, one(a), one(b), one(b))
			}
		}
		checkMerge(t, one(a), one(null()), fields())
		checkMerge(t, one(a), one(fields()), one(fields()))
	}
	// A list in a patch for a field that is not there is taken as it is.
	checkMerge(t, null(), fields(field("l", list(one(null()), null()))), fields(field("l", list(one(null()), null()))))
	checkCompose(t, fields(), fields(field("l", list(one(null()), null()))), fields(field("l", list(one(null()), null()))))
	checkDiff(t, fields(), fields(field("l", list(one(null()), null()))), fields(field("l", list(one(null()), null()))))
}

func TestDiffOfWhatIsNotAMap(t *testing.T) { // P9.1
	for _, a := range severalValues() {
		for _, b := range severalValues() {
			if a.Kind == api.VMap && b.Kind == api.VMap {
				continue
			}
			// Equal or not: at the root, the patch is the second value.
			checkDiff(t, a, b, b)
			// Below it, a field is in the patch if the values differ.
			want := one(b)
			if same(a, b) {
				want = fields()
			}
			checkDiff(t, one(a), one(b), want)
			checkDiff(t, fields(field("0", a), field("a", a), field("z", b)), fields(field("0", a), field("a", b), field("z", b)), want)
			if same(a, b) {
				checkDiff(t, one(one(a)), one(one(b)), fields())
			} else {
				checkDiff(t, one(one(a)), one(one(b)), one(one(b)))
			}
		}
	}
}

func TestDiffOfFieldsOfOneSide(t *testing.T) { // P9.1, P9.4
	for _, v := range severalValues() {
		checkDiff(t, one(v), fields(), one(null()))
		checkDiff(t, fields(), one(v), one(v))
		checkDiff(t, one(one(v)), one(fields()), one(one(null())))
		checkDiff(t, one(fields()), one(one(v)), one(one(v)))
		for _, w := range severalValues() {
			checkDiff(t, one(v), fields(field("b", w)), fields(field("a", null()), field("b", w)))
			checkDiff(t, fields(field("b", w)), one(v), fields(field("a", v), field("b", null())))
			checkDiff(t, fields(field("a", v), field("b", w)), fields(field("b", w), field("c", v)), fields(field("a", null()), field("c", v)))
		}
	}
	// What only the second map has is taken as it is, with the nulls in it.
	deep := fields(field("b", fields(field("c", null()), field("d", list(null())), field("e", one(null())))))
	checkDiff(t, fields(), deep, deep)
	checkDiff(t, fields(), one(deep), one(deep))
	// So it is where the first value has something that is not a map.
	checkDiff(t, one(number(1)), one(deep), one(deep))
	checkDiff(t, one(list(deep)), one(deep), one(deep))
	// A field that is null and one that is not there differ.
	checkDiff(t, one(null()), fields(), one(null()))
	checkDiff(t, fields(), one(null()), one(null()))
	checkDiff(t, one(null()), one(null()), fields())
	checkDiff(t, one(number(1)), one(null()), one(null()))
	checkDiff(t, one(null()), one(number(1)), one(number(1)))
}

func TestDiffOfMapsBelow(t *testing.T) { // P9.1, P9.4
	for _, v := range severalValues() {
		for _, w := range severalValues() {
			x := fields(field("m", v), field("n", w))
			checkDiff(t, x, x, fields())
			checkDiff(t, one(x), one(x), fields())
			checkDiff(t, one(one(x)), one(one(x)), fields())
			checkDiff(t, fields(field("a", x), field("b", number(1))), fields(field("a", x), field("b", number(2))), fields(field("b", number(2))))
		}
	}
	a := fields(field("b", fields(field("c", number(1)), field("d", number(2)), field("e", fields(field("f", null()))))), field("g", number(3)))
	checkDiff(t, a, fields(field("b", fields()), field("g", number(3))), fields(field("b", fields(field("c", null()), field("d", null()), field("e", null())))))
	checkDiff(t, a, fields(field("b", fields(field("c", number(1)), field("d", number(2)), field("e", fields()))), field("g", number(3))), fields(field("b", fields(field("e", fields(field("f", null())))))))
	checkDiff(t, a, fields(field("b", number(1)), field("g", number(3))), fields(field("b", number(1))))
	checkDiff(t, fields(field("b", fields()), field("g", number(3))), a, fields(a.Fields[0]))
	// An empty map and a field that is not there differ.
	checkDiff(t, one(fields()), fields(), one(null()))
	checkDiff(t, fields(), one(fields()), one(fields()))
	checkDiff(t, one(null()), one(fields()), one(fields()))
	checkDiff(t, one(fields()), one(null()), one(null()))
	checkDiff(t, one(list()), one(fields()), one(fields()))
}

func TestComposeWithWhatIsNotAMap(t *testing.T) { // P9.1, P9.3
	q := fields(field("a", null()), field("b", number(1)), field("c", fields(field("d", null()), field("e", list(null(), one(null()))), field("f", one(null())))))
	made := fields(field("b", number(1)), field("c", fields(field("e", list(null(), one(null()))), field("f", fields()))))
	for _, p := range append(otherValues(), null()) {
		// What is not a map, then a map: the nulls of the map have nothing left to remove.
		checkCompose(t, p, q, made)
		checkCompose(t, one(p), one(q), one(made))
		checkCompose(t, p, one(q), one(made))
		checkCompose(t, one(one(p)), one(one(q)), one(one(made)))
		checkCompose(t, p, fields(), fields())
		checkCompose(t, one(p), one(fields()), one(fields()))
		checkCompose(t, p, one(null()), fields())
		// Whatever it was, then what is not a map.
		for _, v := range severalValues() {
			checkCompose(t, v, p, p)
			checkCompose(t, one(v), one(p), one(p))
			checkCompose(t, one(one(v)), one(one(p)), one(one(p)))
			checkCompose(t, fields(field("0", v), field("a", v)), one(p), fields(field("0", v), field("a", p)))
		}
	}
}

func TestComposeKeepsFieldsOfOneSide(t *testing.T) { // P9.1
	for _, v := range severalValues() {
		// Nulls of both patches stay, because they remove something of the value: at the root and below it.
		checkCompose(t, one(v), fields(), one(v))
		checkCompose(t, fields(), one(v), one(v))
		checkCompose(t, one(one(v)), one(fields()), one(one(v)))
		checkCompose(t, one(fields()), one(one(v)), one(one(v)))
		for _, w := range severalValues() {
			checkCompose(t, one(v), fields(field("b", w)), fields(field("a", v), field("b", w)))
			checkCompose(t, fields(field("b", w)), one(v), fields(field("a", v), field("b", w)))
			checkCompose(t, fields(field("x", one(v))), fields(field("x", fields(field("b", w)))), fields(field("x", fields(field("a", v), field("b", w)))))
			checkCompose(t, fields(field("a", v), field("b", number(1))), fields(field("b", number(2)), field("c", w)), fields(field("a", v), field("b", number(2)), field("c", w)))
		}
	}
	checkCompose(t, fields(), fields(), fields())
	checkCompose(t, one(number(1)), one(null()), one(null()))
	checkCompose(t, one(null()), one(number(1)), one(number(1)))
	checkCompose(t, one(null()), one(null()), one(null()))
	checkCompose(t, one(one(number(1))), one(null()), one(null()))
}

func TestFieldsAreSorted(t *testing.T) { // P9.1
	names := []string{"-", "/", "10", "9", "A", "a", "aa", "b"}
	combinations := 1
	for range names {
		combinations *= 4
	}
	// Each name is in neither map, in the first, in the second or in both; in both it is removed, changed or left.
	for c := range combinations {
		a, b, merged, diff, composed := fields(), fields(), fields(), fields(), fields()
		for i, name := range names {
			x, y := number(i), []api.Value{null(), number(i), number(-1)}[(i+c/5)%3]
			where := c >> (2 * i) & 3
			if where&1 == 1 {
				a.Fields = append(a.Fields, field(name, x))
			}
			if where&2 == 2 {
				b.Fields = append(b.Fields, field(name, y))
				composed.Fields = append(composed.Fields, field(name, y))
			}
			switch {
			case where == 1:
				merged.Fields = append(merged.Fields, field(name, x))
				composed.Fields = append(composed.Fields, field(name, x))
				diff.Fields = append(diff.Fields, field(name, null()))
			case where >= 2 && y.Kind != api.VNull:
				merged.Fields = append(merged.Fields, field(name, y))
			}
			if where == 2 || where == 3 && !same(x, y) {
				diff.Fields = append(diff.Fields, field(name, y))
			}
		}
		if !same(Merge(a, b), merged) || !same(Diff(a, b), diff) || !same(Compose(a, b), composed) {
			t.Fatalf("of %+v and %+v: %+v, %+v and %+v; want %+v, %+v and %+v", a, b, Merge(a, b), Diff(a, b), Compose(a, b), merged, diff, composed)
		}
	}
}

// wide returns a map with 64 fields, the most that are valid, with the value v each.
func wide(prefix string, v api.Value) api.Value {
	w := fields()
	for i := range api.MaxList {
		w.Fields = append(w.Fields, field(fmt.Sprint(prefix, 100+i), copied(v)))
	}
	return w
}

// joined is a map with the fields of both.
func joined(a, b api.Value) api.Value {
	return fields(append(slices.Clone(a.Fields), b.Fields...)...)
}

func TestResultsOverTheLimits(t *testing.T) { // P9.1
	a, b := wide("a", number(1)), wide("b", number(2))
	if !value.Valid(a) || !value.Valid(b) || value.Valid(joined(a, b)) {
		t.Fatal("the maps are not what they should be")
	}
	checkMerge(t, a, b, joined(a, b))
	checkMerge(t, b, a, joined(a, b))
	checkMerge(t, one(a), one(b), one(joined(a, b)))
	checkCompose(t, a, b, joined(a, b))
	checkCompose(t, one(b), one(a), one(joined(a, b)))
	checkDiff(t, a, b, joined(wide("a", null()), b))
	checkDiff(t, one(b), one(a), one(joined(a, wide("b", null()))))
	// More values than a valid one may have, in maps that are no wider than valid ones.
	ten := list(slices.Repeat([]api.Value{number(3)}, 9)...)
	more, others := fields(), fields()
	for i := range 32 {
		more.Fields = append(more.Fields, field(fmt.Sprint("m", 10+i), ten))
		others.Fields = append(others.Fields, field(fmt.Sprint("n", 10+i), ten))
	}
	if !value.Valid(more) || !value.Valid(others) || value.Valid(joined(more, others)) {
		t.Fatal("the maps are not what they should be")
	}
	checkMerge(t, more, others, joined(more, others))
	checkCompose(t, others, more, joined(more, others))
	checkDiff(t, fields(), joined(more, others), joined(more, others))
}

func TestAtTheLimits(t *testing.T) { // P9.1, P9.2, P9.4
	// Twelve levels, the deepest that are valid.
	for _, v := range append(otherValues(), null(), fields()) {
		if len(v.List) > 0 {
			continue
		}
		x, y, removed, kept := v, text("other"), null(), fields()
		for i := range api.MaxDepth - 1 {
			x, y, removed = one(x), one(y), one(removed)
			if i > 0 {
				kept = one(kept)
			}
		}
		if !value.Valid(x) || !value.Valid(one(kept)) || value.Valid(one(x)) {
			t.Fatal("the values are not what they should be")
		}
		checkMerge(t, x, y, y)
		checkMerge(t, x, removed, kept)
		checkMerge(t, number(1), removed, kept)
		checkDiff(t, x, y, y)
		checkDiff(t, x, x, fields())
		checkDiff(t, x, kept, removed)
		checkDiff(t, kept, x, x)
		checkCompose(t, x, y, y)
		checkCompose(t, x, removed, removed)
		checkCompose(t, kept, removed, removed)
		checkCompose(t, null(), removed, kept)
	}
	longest := list(slices.Repeat([]api.Value{null()}, api.MaxList)...)
	checkMerge(t, one(list()), one(longest), one(longest))
	checkDiff(t, one(list()), one(longest), one(longest))
	checkCompose(t, one(longest), one(longest), one(longest))
	for _, v := range []api.Value{number(api.MaxNumber), number(-api.MaxNumber), text(string(slices.Repeat([]byte("~"), api.MaxString)))} {
		checkMerge(t, one(null()), one(v), one(v))
		checkDiff(t, one(v), one(v), fields())
		checkDiff(t, one(number(0)), one(v), one(v))
		checkCompose(t, one(null()), one(v), one(v))
	}
}

func TestSharedArguments(t *testing.T) { // P1, P2
	// The arguments may share memory, with each other and within themselves; each part of a result has its own.
	x := fields(field("l", list(one(number(1)), list(null()))), field("m", one(number(2))))
	twice := fields(field("a", x), field("b", x), field("c", list(x, x)))
	other := fields(field("a", x), field("b", list(x)), field("d", x))
	checkMerge(t, twice, twice, twice)
	checkMerge(t, twice, other, fields(field("a", x), field("b", list(x)), field("c", list(x, x)), field("d", x)))
	checkDiff(t, twice, twice, fields())
	checkDiff(t, twice, other, fields(field("b", list(x)), field("c", null()), field("d", x)))
	checkCompose(t, twice, twice, twice)
	checkCompose(t, twice, other, fields(field("a", x), field("b", list(x)), field("c", list(x, x)), field("d", x)))
	checkCompose(t, null(), twice, twice)
	// Arguments with room behind their elements, into which nothing is written.
	roomy := func(v api.Value) api.Value {
		v.Fields = append(make([]api.Field, 0, 9), v.Fields...)
		return v
	}
	for _, v := range mapValues() {
		for _, p := range mapValues() {
			a, b := roomy(v), roomy(p)
			run(t, "Merge", Merge, a, b)
			run(t, "Diff", Diff, a, b)
			run(t, "Compose", Compose, a, b)
			if !same(api.Value{Fields: a.Fields[:9]}, api.Value{Fields: append(slices.Clone(v.Fields), make([]api.Field, 9-len(v.Fields))...)}) {
				t.Errorf("something was written behind the fields of %+v", v)
			}
		}
	}
}

// deep returns a value with the given number of maps in one another above v.
func deep(levels int, v api.Value) api.Value {
	for range levels {
		v = one(v)
	}
	return v
}

func TestDeepArguments(t *testing.T) { // P1
	const levels = 1<<16 - 2
	x, y, removed, kept := deep(levels, number(1)), deep(levels, number(2)), deep(levels, null()), deep(levels-1, fields())
	nested := list()
	for range levels {
		nested = list(nested)
	}
	for i, c := range []struct{ got, want api.Value }{
		{Merge(x, y), y}, {Merge(x, removed), kept}, {Merge(number(1), removed), kept}, {Merge(x, nested), nested}, {Merge(nested, x), x}, {Merge(fields(), one(nested)), one(nested)},
		{Diff(x, y), y}, {Diff(x, x), fields()}, {Diff(x, kept), removed}, {Diff(kept, x), x}, {Diff(x, nested), nested}, {Diff(one(nested), one(nested)), fields()},
		{Compose(x, y), y}, {Compose(x, removed), removed}, {Compose(null(), removed), kept}, {Compose(x, nested), nested}, {Compose(nested, x), x},
	} {
		if !value.Equal(c.got, c.want) {
			t.Errorf("case %d of the deep values", i)
		}
	}
	for _, v := range []api.Value{null(), number(1), list(null()), one(null()), one(one(number(1)))} {
		for _, call := range []func(a, b api.Value) api.Value{Merge, Diff, Compose} {
			call(v, x)
			call(x, v)
			call(v, nested)
			call(nested, v)
		}
	}
}
