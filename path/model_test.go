package path

import (
	"maps"
	"math/rand"
	"slices"
	"testing"

	"orchestrator/api"
	"orchestrator/value"
)

// leads reports whether the step s leads from v to its field or element number i: it fits that one, and none before it.
func leads(v api.Value, s api.Step, i int) bool {
	fits := func(i int) bool {
		switch s.Kind {
		case api.SField:
			return v.Kind == api.VMap && i < len(v.Fields) && v.Fields[i].Name == s.Name
		case api.SIndex:
			return v.Kind == api.VList && i < len(v.List) && i == s.Index
		}
		if v.Kind != api.VList || i >= len(v.List) || v.List[i].Kind != api.VMap {
			return false
		}
		for _, one := range v.List[i].Fields {
			if one.Name == s.Name {
				return one.V.Kind == api.VString && one.V.S == s.Value
			}
		}
		return false
	}
	for before := range i {
		if fits(before) {
			return false
		}
	}
	return fits(i)
}

// expectPlaces returns the numbers of the fields and elements that a path leads through.
func expectPlaces(v api.Value, p []api.Step) ([]int, bool) {
	places := []int{}
	for _, s := range p {
		found := -1
		for i := range len(v.Fields) + len(v.List) {
			if leads(v, s, i) {
				found = i
			}
		}
		if found < 0 {
			return nil, false
		}
		places = append(places, found)
		if s.Kind == api.SField {
			v = v.Fields[found].V
		} else {
			v = v.List[found]
		}
	}
	return places, true
}

func valueAt(v api.Value, p []api.Step, places []int) api.Value {
	for i, s := range p {
		if s.Kind == api.SField {
			v = v.Fields[places[i]].V
		} else {
			v = v.List[places[i]]
		}
	}
	return v
}

// without copies v but for what stands at the places.
func without(v api.Value, p []api.Step, places []int) api.Value {
	other := api.Value{Kind: v.Kind, N: v.N, S: v.S}
	for i, one := range v.List {
		switch {
		case p[0].Kind == api.SField || i != places[0]:
			other.List = append(other.List, copied(one))
		case len(p) > 1:
			other.List = append(other.List, without(one, p[1:], places[1:]))
		}
	}
	for i, one := range v.Fields {
		switch {
		case p[0].Kind != api.SField || i != places[0]:
			other.Fields = append(other.Fields, field(one.Name, copied(one.V)))
		case len(p) > 1:
			other.Fields = append(other.Fields, field(one.Name, without(one.V, p[1:], places[1:])))
		}
	}
	return other
}

// node is a value as Go's own maps and pointers, into which one can write.
type node struct {
	kind, n int
	s       string
	list    []*node
	fields  map[string]*node
}

func nodeOf(v api.Value) *node {
	other := &node{kind: v.Kind, n: v.N, s: v.S, fields: map[string]*node{}}
	for _, one := range v.List {
		other.list = append(other.list, nodeOf(one))
	}
	for _, one := range v.Fields {
		other.fields[one.Name] = nodeOf(one.V)
	}
	return other
}

func (in *node) value() api.Value {
	v := api.Value{Kind: in.kind, N: in.n, S: in.s}
	for _, one := range in.list {
		v.List = append(v.List, one.value())
	}
	for _, one := range slices.Sorted(maps.Keys(in.fields)) {
		v.Fields = append(v.Fields, field(one, in.fields[one].value()))
	}
	return v
}

func (in *node) has(s api.Step) bool {
	key := in.fields[s.Name]
	return in.kind == api.VMap && key != nil && key.kind == api.VString && key.s == s.Value
}

// enter follows a step, and makes what is missing.
func (in *node) enter(s api.Step) (*node, api.Errno) {
	empty := &node{kind: api.VMap, fields: map[string]*node{}}
	switch {
	case s.Kind == api.SField && in.kind == api.VMap:
		if in.fields[s.Name] == nil {
			in.fields[s.Name] = empty
		}
		return in.fields[s.Name], api.OK
	case s.Kind == api.SField || in.kind != api.VList:
		return nil, api.ErrType
	case s.Kind == api.SIndex && s.Index > len(in.list):
		return nil, api.ErrRange
	case s.Kind == api.SIndex && s.Index < len(in.list):
		return in.list[s.Index], api.OK
	}
	for _, one := range in.list {
		if s.Kind == api.SKey && one.has(s) {
			return one, api.OK
		}
	}
	if s.Kind == api.SKey {
		empty.fields[s.Name] = nodeOf(text(s.Value))
	}
	in.list = append(in.list, empty)
	return empty, api.OK
}

// expectSet works out what Set must answer by writing into nodes.
func expectSet(v api.Value, p []api.Step, x api.Value) (api.Value, api.Errno) {
	if !expectValid(p) || !value.Valid(v) || !value.Valid(x) {
		return api.Value{}, api.ErrInvalid
	}
	root := nodeOf(v)
	at, code := root, api.OK
	chosen := map[*node][]api.Step{}
	for _, s := range p {
		if at, code = at.enter(s); code != api.OK {
			return api.Value{}, code
		}
		if s.Kind == api.SKey {
			chosen[at] = append(chosen[at], s)
		}
	}
	*at = *nodeOf(x)
	for one, keys := range chosen {
		for _, s := range keys {
			if !one.has(s) {
				return api.Value{}, api.ErrType
			}
		}
	}
	if !value.Valid(root.value()) {
		return api.Value{}, api.ErrTooLong
	}
	return root.value(), api.OK
}

// randomTree makes a value of at most the given levels with few names and keys, so that steps often lead on. If it need not be valid, fields may be doubled and out of order and members may be used that the kind does not use.
func randomTree(r *rand.Rand, levels int, valid bool) api.Value {
	v := api.Value{Kind: r.Intn(6)}
	if levels > 1 && r.Intn(4) > 0 {
		v.Kind = api.VList + r.Intn(2)
	}
	if v.Kind == api.VInt || v.Kind == api.VBool {
		v.N = r.Intn(2)
	}
	if v.Kind == api.VString {
		v.S = []string{"", "x", "y"}[r.Intn(3)]
	}
	odd := !valid && r.Intn(6) == 0
	if levels > 1 && (v.Kind == api.VList || odd) {
		for range r.Intn(4) {
			v.List = append(v.List, randomTree(r, levels-1, valid))
		}
	}
	if levels > 1 && (v.Kind == api.VMap || odd) {
		v.Fields = randomFields(r, levels, valid)
	}
	if odd {
		v.N, v.S = r.Intn(3), "x"
	}
	return v
}

func randomFields(r *rand.Rand, levels int, valid bool) []api.Field {
	var all []api.Field
	for _, one := range []string{"a", "b", "k"} {
		if r.Intn(2) == 0 {
			all = append(all, field(one, randomTree(r, levels-1, valid)))
		}
	}
	if r.Intn(2) == 0 {
		all = slices.DeleteFunc(all, func(one api.Field) bool { return one.Name == "k" })
		all = append(all, field("k", text([]string{"", "x", "y"}[r.Intn(3)])))
	}
	if !valid {
		for range r.Intn(2) * r.Intn(3) {
			all = append(all, field([]string{"a", "b", "k"}[r.Intn(3)], randomTree(r, levels-1, valid)))
		}
		r.Shuffle(len(all), func(i, j int) { all[i], all[j] = all[j], all[i] })
	}
	return all
}

// randomPathIn makes a path that mostly leads on in v.
func randomPathIn(r *rand.Rand, v api.Value, plain bool) []api.Step {
	p := steps()
	for range r.Intn(5) {
		s := randomStepIn(r, v, plain)
		p = append(p, s)
		if places, ok := expectPlaces(v, steps(s)); ok {
			v = valueAt(v, steps(s), places)
		}
	}
	return p
}

func randomStepIn(r *rand.Rand, v api.Value, plain bool) api.Step {
	if r.Intn(200) == 0 && !plain {
		return randomStep(r)
	}
	kind := v.Kind
	if r.Intn(12) == 0 {
		kind = r.Intn(6)
	}
	switch {
	case kind == api.VList && r.Intn(2) == 0 && !plain:
		return key("k", []string{"", "x", "y", "z"}[r.Intn(4)])
	case kind == api.VList:
		return index(max(0, r.Intn(len(v.List)+3)-1))
	case len(v.Fields) > 0 && r.Intn(4) > 0:
		return name(v.Fields[r.Intn(len(v.Fields))].Name)
	}
	return name([]string{"a", "b", "k", "c"}[r.Intn(4)])
}

func TestGetAndRemoveAgreeWithTheChapter(t *testing.T) { // P6.2, P2
	r := rand.New(rand.NewSource(62))
	counts := map[bool]int{}
	for range 40000 {
		v := randomTree(r, 5, false)
		p := randomPathIn(r, v, false)
		places, found := expectPlaces(v, p)
		counts[found]++
		if !found || !expectValid(p) {
			checkMissing(t, v, p)
			continue
		}
		checkGet(t, v, p, valueAt(v, p, places), true)
		if len(p) > 0 {
			checkRemove(t, v, p, without(v, p, places), true)
		}
	}
	if counts[true] < 10000 || counts[false] < 10000 {
		t.Errorf("the paths are %v", counts)
	}
}

func TestSetAgreesWithTheChapter(t *testing.T) { // P6.2, P2
	r := rand.New(rand.NewSource(63))
	counts := make([]int, api.ErrUnavailable+1)
	for range 60000 {
		v, x := randomTree(r, 5, r.Intn(20) > 0), randomTree(r, 3, r.Intn(20) > 0)
		if r.Intn(5) == 0 {
			v = list(append(slices.Repeat([]api.Value{v}, r.Intn(3)), many(60+r.Intn(5)).List...)...)
		}
		if r.Intn(5) == 0 {
			x = nested(1 + r.Intn(12))
		}
		p := randomPathIn(r, v, false)
		want, code := expectSet(v, p, x)
		counts[code]++
		checkSetResult(t, v, p, x, want, code)
	}
	for _, e := range []api.Errno{api.OK, api.ErrInvalid, api.ErrType, api.ErrRange, api.ErrTooLong} {
		if counts[e] < 300 {
			t.Errorf("only %d calls with the result %d", counts[e], e)
		}
	}
}

func TestWhatIsSetIsFound(t *testing.T) { // P6.4
	r := rand.New(rand.NewSource(64))
	set, both := 0, 0
	for range 40000 {
		v, x, y := randomTree(r, 5, true), randomTree(r, 3, true), randomTree(r, 3, true)
		p := randomPathIn(r, v, false)
		w, e := Set(v, p, x)
		if e != api.OK {
			continue
		}
		set++
		checkGet(t, w, p, x, true)
		if !value.Valid(w) {
			t.Fatalf("Set(%+v, %+v, %+v) = %+v, which is not valid", v, p, x, w)
		}
		first, e := Set(v, p, y)
		second, again := Set(w, p, y)
		if e == api.OK && again == api.OK {
			both++
			if !same(first, second) {
				t.Fatalf("Set(%+v, %+v, %+v) = %+v; behind another it is %+v", v, p, y, first, second)
			}
		}
	}
	if set < 10000 || both < 5000 {
		t.Errorf("only %d values were set, %d of them twice", set, both)
	}
}

func TestSetLeavesTheRest(t *testing.T) { // P6.4
	r := rand.New(rand.NewSource(65))
	counts := map[bool]int{}
	for range 40000 {
		v := randomTree(r, 5, true)
		p, q := randomPathIn(r, v, true), randomPathIn(r, v, true)
		w, e := Set(v, p, randomTree(r, 3, true))
		if e != api.OK || begins(p, q) || begins(q, p) {
			continue
		}
		want, found := Get(v, q)
		counts[found]++
		checkGet(t, w, q, want, found)
	}
	if counts[true] < 1000 || counts[false] < 1000 {
		t.Errorf("the other paths are %v", counts)
	}
}

func TestWhatIsRemovedIsNotFound(t *testing.T) { // P6.5
	r := rand.New(rand.NewSource(66))
	removed := 0
	for range 40000 {
		v := randomTree(r, 5, true)
		p := randomPathIn(r, v, true)
		old, found := Get(v, p)
		if !found || len(p) == 0 || p[len(p)-1].Kind != api.SField {
			continue
		}
		w, ok := Remove(v, p)
		if !ok || !value.Valid(w) {
			t.Fatalf("Remove(%+v, %+v) = %+v, %v", v, p, w, ok)
		}
		removed++
		checkMissing(t, w, p)
		checkSet(t, w, p, old, v)
	}
	if removed < 3000 {
		t.Errorf("only %d fields were removed", removed)
	}
	all := manyFields(64)
	for _, one := range all.Fields {
		w, _ := Remove(all, steps(one.Name))
		checkMissing(t, w, steps(one.Name))
		checkSet(t, w, steps(one.Name), one.V, all)
	}
}
