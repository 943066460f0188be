package patch

import (
	"cmp"
	"maps"
	"math/rand"
	"slices"
	"strings"
	"testing"

	"orchestrator/api"
	"orchestrator/value"
)

// A table has the values that are reached from the root of a value through maps alone, by their paths. The path of the root is empty; a path is the path above it, a dot and the name (which has no dot).
type table map[string]api.Value

// tableOf returns the table of v, with an empty map in the place of each map.
func tableOf(v api.Value) table {
	t := table{}
	t.add("", v)
	return t
}

// add sets what is at the path and below it, where there is nothing yet.
func (t table) add(path string, v api.Value) {
	if v.Kind != api.VMap {
		t[path] = v
		return
	}
	t[path] = fields()
	for _, one := range v.Fields {
		t.add(path+"."+one.Name, one.V)
	}
}

// put replaces what is at the path and below it.
func (t table) put(path string, v api.Value) {
	t.clear(path)
	t.add(path, v)
}

// clear takes away what is at the path and below it.
func (t table) clear(path string) {
	maps.DeleteFunc(t, func(at string, _ api.Value) bool { return at == path || strings.HasPrefix(at, path+".") })
}

// at returns the value at the path.
func (t table) at(path string) api.Value {
	v := copied(t[path])
	if v.Kind == api.VMap {
		for below := range t {
			if below != "" && above(below) == path {
				v.Fields = append(v.Fields, field(name(below), t.at(below)))
			}
		}
		slices.SortFunc(v.Fields, func(a, b api.Field) int { return strings.Compare(a.Name, b.Name) })
	}
	return v
}

func above(path string) string { return path[:strings.LastIndex(path, ".")] }

func name(path string) string { return path[strings.LastIndex(path, ".")+1:] }

// upToDown returns the paths of a table, each behind the one above it.
func (t table) upToDown() []string {
	return slices.SortedFunc(maps.Keys(t), func(a, b string) int {
		return cmp.Or(strings.Count(a, ".")-strings.Count(b, "."), strings.Compare(a, b))
	})
}

// expectMerge works out what Merge must answer: it takes what the patch has at one path after the other, and changes the value there.
func expectMerge(v, p api.Value) api.Value {
	t, changes := tableOf(v), tableOf(p)
	for _, path := range changes.upToDown() {
		x := changes[path]
		switch {
		case x.Kind == api.VMap && t[path].Kind != api.VMap:
			t.put(path, fields())
		case x.Kind == api.VNull && path != "":
			t.clear(path)
		case x.Kind != api.VMap:
			t.put(path, x)
		}
	}
	return t.at("")
}

// expectDiff works out what Diff must answer: it holds the two values against each other at each path below which both have maps.
func expectDiff(a, b api.Value) api.Value {
	if a.Kind != api.VMap || b.Kind != api.VMap {
		return b
	}
	from, to, changes := tableOf(a), tableOf(b), table{"": fields()}
	both := table{}
	maps.Copy(both, from)
	maps.Copy(both, to)
	for _, path := range both.upToDown()[1:] {
		old, had := from[path]
		_, has := to[path]
		switch {
		case from[above(path)].Kind != api.VMap || to[above(path)].Kind != api.VMap || same(from.at(path), to.at(path)) && had && has:
		case !has:
			changes.put(path, null())
		case old.Kind == api.VMap && to[path].Kind == api.VMap:
			changes.put(path, fields())
		default:
			changes.put(path, to.at(path))
		}
	}
	return changes.at("")
}

// expectCompose works out what Compose must answer: it takes what the second patch has at one path after the other, and changes the first one there.
func expectCompose(p, q api.Value) api.Value {
	first, second := tableOf(p), tableOf(q)
	composed := tableOf(p)
	for _, path := range second.upToDown() {
		old, had := first[path]
		switch {
		case path != "" && (first[above(path)].Kind != api.VMap || second[above(path)].Kind != api.VMap):
			// The field above has been taken over as a whole.
		case second[path].Kind != api.VMap || !had:
			composed.put(path, second.at(path))
		case old.Kind != api.VMap:
			composed.put(path, expectMerge(null(), second.at(path)))
		}
	}
	return composed.at("")
}

// clean reports whether no map that is reached through maps alone has a null field.
func clean(v api.Value) bool {
	for path, x := range tableOf(v) {
		if path != "" && x.Kind == api.VNull {
			return false
		}
	}
	return true
}

// compatible reports whether two patches are compatible.
func compatible(p, q api.Value) bool {
	first, second := tableOf(p), tableOf(q)
	for path, x := range second {
		old, had := first[path]
		if had && x.Kind == api.VMap && old.Kind != api.VMap {
			return false
		}
	}
	return true
}

// smallValues are all values of at most two levels with the names a and b and a few leaves, and some maps of three levels.
func smallValues() []api.Value {
	leaves := []api.Value{null(), number(1), number(2), list(), list(null()), fields()}
	all := slices.Clone(leaves)
	for _, x := range leaves {
		all = append(all, one(x), fields(field("b", x)))
		for _, y := range leaves {
			all = append(all, fields(field("a", x), field("b", y)))
		}
	}
	for _, x := range slices.Clone(all[6:]) {
		all = append(all, one(x))
	}
	return all
}

// checkAll holds the three functions against the models.
func checkAll(t *testing.T, a, b api.Value) {
	t.Helper()
	checkMerge(t, a, b, expectMerge(a, b))
	checkDiff(t, a, b, expectDiff(a, b))
	checkCompose(t, a, b, expectCompose(a, b))
}

// checkDifference checks what holds of the patch from a to b.
func checkDifference(t *testing.T, a, b api.Value) {
	t.Helper()
	d := Diff(a, b)
	if got := Merge(a, d); clean(b) && !same(got, b) {
		t.Errorf("Merge(%+v, Diff of it and %+v) = %+v", a, b, got)
	}
	if a.Kind != api.VMap || b.Kind != api.VMap {
		return
	}
	checkDiff(t, a, a, fields())
	checkDiff(t, b, copied(b), fields())
	for _, one := range d.Fields {
		i, j := indexOf(a, one.Name), indexOf(b, one.Name)
		if i < 0 && j < 0 || i >= 0 && j >= 0 && same(a.Fields[i].V, b.Fields[j].V) {
			t.Errorf("Diff(%+v, %+v) = %+v has the field %s", a, b, d, one.Name)
		}
	}
}

// indexOf returns which field of a map has the name, or -1.
func indexOf(v api.Value, name string) int {
	return slices.IndexFunc(v.Fields, func(one api.Field) bool { return one.Name == name })
}

// checkPatched checks what holds of v with the patch p.
func checkPatched(t *testing.T, v, p api.Value) {
	t.Helper()
	patched := Merge(v, p)
	if clean(v) && !clean(patched) {
		t.Errorf("Merge(%+v, %+v) = %+v is not clean", v, p, patched)
	}
	checkMerge(t, patched, p, patched)
}

// checkComposed checks what holds of v with the patches p and q; it reports whether they are compatible and whether v becomes the same in both ways.
func checkComposed(t *testing.T, v, p, q api.Value) (bool, bool) {
	t.Helper()
	each, both := Merge(Merge(v, p), q), Merge(v, Compose(p, q))
	fit, equal := compatible(p, q), value.Equal(each, both)
	if fit && !equal {
		t.Errorf("%+v with %+v and %+v = %+v; with both at once = %+v", v, p, q, each, both)
	}
	return fit, equal
}

func TestSmallValues(t *testing.T) { // P9.1, P9.2, P9.4
	all := smallValues()
	for _, a := range all {
		for _, b := range all {
			checkAll(t, a, b)
			checkDifference(t, a, b)
			checkPatched(t, a, b)
		}
	}
}

func TestSmallPatches(t *testing.T) { // P9.3
	all := smallValues()
	fitting, others, unequal := 0, 0, 0
	for _, p := range all {
		for _, q := range all {
			for i := 0; i < len(all); i += 3 {
				fit, equal := checkComposed(t, all[i], p, q)
				switch {
				case fit:
					fitting++
				case equal:
					others++
				default:
					unequal++
				}
			}
		}
	}
	if fitting < 100000 || others < 50000 || unequal < 5000 {
		t.Errorf("%d times the patches were compatible, %d times they were not, %d times that made a difference", fitting, others, unequal)
	}
}

func TestPatchesThatAreNotCompatible(t *testing.T) { // P9.1, P9.3
	// No patch replaces an arbitrary map by {a: 1}: the composed one leaves the other fields.
	p, q := number(5), one(number(1))
	v := fields(field("b", number(2)))
	checkMerge(t, Merge(v, p), q, one(number(1)))
	checkCompose(t, p, q, one(number(1)))
	checkMerge(t, v, Compose(p, q), fields(field("a", number(1)), field("b", number(2))))
	// The same below the root, and behind a removal.
	for _, p := range append(otherValues(), null()) {
		checkMerge(t, Merge(one(v), one(p)), one(q), one(q))
		checkCompose(t, one(p), one(q), one(q))
		checkMerge(t, one(v), Compose(one(p), one(q)), one(fields(field("a", number(1)), field("b", number(2)))))
	}
}

func TestValuesThatAreNotClean(t *testing.T) { // P9.2
	// No patch sets a field to null, so that a value that is not clean can't be reached by its patch.
	b := fields(field("a", null()), field("b", fields(field("c", null()), field("d", number(1)))))
	checkDiff(t, fields(), b, b)
	checkMerge(t, fields(), Diff(fields(), b), fields(field("b", fields(field("d", number(1))))))
	checkDiff(t, one(number(1)), b, b)
	checkMerge(t, one(number(1)), Diff(one(number(1)), b), fields(field("b", fields(field("d", number(1))))))
	// From one that has the same nulls it can: they are not in the patch.
	other := fields(field("a", null()), field("b", fields(field("c", null()), field("d", number(2)))), field("e", null()))
	checkDiff(t, other, b, fields(field("b", fields(field("d", number(1)))), field("e", null())))
	checkMerge(t, other, Diff(other, b), b)
	// Nulls in a list, and in maps in it, make no value unclean.
	l := one(list(null(), one(null()), fields(field("b", one(null())))))
	if !clean(l) || clean(b) || !clean(null()) {
		t.Fatal("the values are not what they should be")
	}
	for _, a := range severalValues() {
		checkMerge(t, a, Diff(a, l), l)
		checkMerge(t, a, Diff(a, null()), null())
		checkPatched(t, a, l)
	}
}

// maker makes values at random.
type maker struct{ *rand.Rand }

// someNames are sorted.
var someNames = []string{"B", "a", "a-b", "a/b", "b", "c"}

// value makes a value of at most the given levels, mostly a map; it has null fields if nulls is set.
func (m maker) value(levels int, nulls bool) api.Value {
	if levels > 1 && m.Intn(4) > 0 {
		v := fields()
		for _, name := range someNames {
			if m.Intn(5) < 2 {
				v.Fields = append(v.Fields, field(name, m.fieldValue(levels-1, nulls)))
			}
		}
		return v
	}
	several := append(otherValues(), null(), fields())
	return several[m.Intn(len(several))]
}

// fieldValue makes the value of a field: it is null only if nulls is set.
func (m maker) fieldValue(levels int, nulls bool) api.Value {
	for {
		if v := m.value(levels, nulls); nulls || v.Kind != api.VNull {
			return v
		}
	}
}

// changed makes a value that is like v in most places.
func (m maker) changed(v api.Value, nulls bool) api.Value {
	if v.Kind != api.VMap || m.Intn(8) == 0 {
		if m.Intn(3) > 0 {
			return copied(v)
		}
		return m.fieldValue(1+m.Intn(3), nulls)
	}
	w := fields()
	for _, name := range someNames {
		i := indexOf(v, name)
		switch {
		case i >= 0 && m.Intn(6) > 0:
			w.Fields = append(w.Fields, field(name, m.changed(v.Fields[i].V, nulls)))
		case i < 0 && m.Intn(6) == 0:
			w.Fields = append(w.Fields, field(name, m.fieldValue(1+m.Intn(2), nulls)))
		}
	}
	return w
}

// eachCase calls do with a value, one that is like it in most places, and one that need not be.
func eachCase(seed int64, n int, do func(v, like, other api.Value)) {
	m := maker{rand.New(rand.NewSource(seed))}
	for range n {
		v := m.value(1+m.Intn(4), m.Intn(2) == 0)
		like, other := m.changed(v, m.Intn(2) == 0), m.value(1+m.Intn(4), m.Intn(2) == 0)
		do(v, like, other)
	}
}

func TestAgreesWithTheChapter(t *testing.T) { // P9.1
	merged, differing, composed := 0, 0, 0
	eachCase(91, 3000, func(v, like, other api.Value) {
		for _, pair := range [][2]api.Value{{v, like}, {like, v}, {v, other}, {other, like}} {
			a, b := pair[0], pair[1]
			checkAll(t, a, b)
			if m := Merge(a, b); !same(m, a) && !same(m, b) {
				merged++
			}
			if d := Diff(a, b); !same(d, b) && len(d.Fields) > 0 {
				differing++
			}
			if c := Compose(a, b); !same(c, a) && !same(c, b) && !same(c, Merge(a, b)) {
				composed++
			}
		}
	})
	if merged < 3000 || differing < 3000 || composed < 400 {
		t.Errorf("%d times Merge, %d times Diff and %d times Compose had something to do", merged, differing, composed)
	}
}

func TestDiffAndMerge(t *testing.T) { // P9.2, P9.4
	reached, short := 0, 0
	eachCase(92, 4000, func(v, like, other api.Value) {
		for _, pair := range [][2]api.Value{{v, like}, {like, v}, {v, other}, {other, like}} {
			a, b := pair[0], pair[1]
			checkDifference(t, a, b)
			checkPatched(t, a, b)
			if clean(b) {
				reached++
				if value.Size(Diff(a, b)) < value.Size(b) {
					short++
				}
			}
		}
	})
	if reached < 12000 || short < 2000 {
		t.Errorf("%d values could be reached, %d by a patch that is smaller", reached, short)
	}
}

func TestComposition(t *testing.T) { // P9.3
	fitting, others, unequal := 0, 0, 0
	eachCase(93, 8000, func(v, like, other api.Value) {
		for _, three := range [][3]api.Value{{v, like, other}, {v, other, like}, {other, v, like}, {other, like, v}, {like, other, v}, {v, v, like}, {other, Diff(other, v), Diff(v, like)}} {
			fit, equal := checkComposed(t, three[0], three[1], three[2])
			switch {
			case fit:
				fitting++
			case equal:
				others++
			default:
				unequal++
			}
		}
	})
	if fitting < 35000 || others < 8000 || unequal < 3000 {
		t.Errorf("%d times the patches were compatible, %d times they were not, %d times that made a difference", fitting, others, unequal)
	}
}

// anyValue makes a value of which nothing is sure to be valid: its fields may be in any order and doubled.
func anyValue(r *rand.Rand, levels int) api.Value {
	v := api.Value{Kind: r.Intn(8) - 1, N: r.Intn(3) - 1, S: []string{"", "x", "\xff"}[r.Intn(3)]}
	if r.Intn(2) == 0 {
		v.Kind = api.VMap
	}
	if levels == 0 {
		return v
	}
	for range r.Intn(3) {
		v.List = append(v.List, anyValue(r, levels-1))
	}
	for range r.Intn(4) {
		v.Fields = append(v.Fields, field(append(someNames, "", "\xff")[r.Intn(8)], anyValue(r, levels-1)))
	}
	return v
}

func TestAnyArguments(t *testing.T) { // P1, P2
	r := rand.New(rand.NewSource(2))
	for range 4000 {
		a, b := anyValue(r, r.Intn(5)), anyValue(r, r.Intn(5))
		for _, pair := range [][2]api.Value{{a, b}, {a, a}, {a, copied(a)}} {
			run(t, "Merge", Merge, pair[0], pair[1])
			run(t, "Diff", Diff, pair[0], pair[1])
			run(t, "Compose", Compose, pair[0], pair[1])
		}
	}
}
