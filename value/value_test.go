package value

import (
	"maps"
	"math"
	"math/rand"
	"reflect"
	"slices"
	"strconv"
	"strings"
	"testing"

	"orchestrator/api"
)

func field(name string, v api.Value) api.Field { return api.Field{Name: name, V: v} }

// rawList and rawMap make values by hand, so that what a test expects does not come from the functions under test.
func rawList(l ...api.Value) api.Value { return api.Value{Kind: api.VList, List: l} }

func rawMap(f ...api.Field) api.Value { return api.Value{Kind: api.VMap, Fields: f} }

func rawInt(n int) api.Value { return api.Value{Kind: api.VInt, N: n} }

// nested returns lists in one another, with the given number of levels.
func nested(levels int) api.Value {
	v := api.Value{}
	for range levels - 1 {
		v = rawList(v)
	}
	return v
}

// nestedMaps returns maps in one another, with the given number of levels.
func nestedMaps(levels int) api.Value {
	v := api.Value{}
	for range levels - 1 {
		v = rawMap(field("a", v))
	}
	return v
}

// duplicate copies v by means of the test alone; slices that are empty become nil.
func duplicate(v api.Value) api.Value {
	other := api.Value{Kind: v.Kind, N: v.N, S: v.S}
	for _, one := range v.List {
		other.List = append(other.List, duplicate(one))
	}
	for _, one := range v.Fields {
		other.Fields = append(other.Fields, field(one.Name, duplicate(one.V)))
	}
	return other
}

// same reports whether a and b agree in all members, but for the difference of nil and empty.
func same(a, b api.Value) bool { return reflect.DeepEqual(duplicate(a), duplicate(b)) }

// cells returns the places in memory that the slices of a tree reach, spare ones included.
func cells(v api.Value) []any {
	var places []any
	list, fields := v.List[:cap(v.List)], v.Fields[:cap(v.Fields)]
	for i := range list {
		places = append(places, &list[i])
	}
	for i := range fields {
		places = append(places, &fields[i])
	}
	for _, one := range v.List {
		places = append(places, cells(one)...)
	}
	for _, one := range v.Fields {
		places = append(places, cells(one.V)...)
	}
	return places
}

// checkApart checks that the result shares no memory with the arguments, and that no two of its slices share any.
func checkApart(t *testing.T, result api.Value, arguments ...api.Value) {
	t.Helper()
	taken := map[any]bool{}
	for _, one := range arguments {
		for _, place := range cells(one) {
			taken[place] = true
		}
	}
	for _, place := range cells(result) {
		if taken[place] {
			t.Fatalf("the result %v shares memory with %v or within itself", result, arguments)
		}
		taken[place] = true
	}
}

func checkSame(t *testing.T, got, want api.Value) {
	t.Helper()
	if !same(got, want) {
		t.Errorf("got %+v; want %+v", got, want)
	}
}

func checkGet(t *testing.T, v api.Value, name string, want api.Value, found bool) {
	t.Helper()
	got, ok := Get(v, name)
	if ok != found || !same(got, want) {
		t.Errorf("Get(%+v, %q) = %+v, %v; want %+v, %v", v, name, got, ok, want, found)
	}
	checkApart(t, got, v)
}

func checkWith(t *testing.T, v api.Value, name string, x, want api.Value) {
	t.Helper()
	got := With(v, name, x)
	if !same(got, want) {
		t.Errorf("With(%+v, %q, %+v) = %+v; want %+v", v, name, x, got, want)
	}
	checkApart(t, got, v, x)
}

func checkWithout(t *testing.T, v api.Value, name string, want api.Value) {
	t.Helper()
	got := Without(v, name)
	if !same(got, want) {
		t.Errorf("Without(%+v, %q) = %+v; want %+v", v, name, got, want)
	}
	checkApart(t, got, v)
}

// oddValues are values that are not valid, some with members that their kind does not use.
func oddValues() []api.Value {
	list, fields := []api.Value{rawInt(1), {}}, []api.Field{field("b", rawInt(2)), field("a", rawList(rawInt(3))), field("b", rawInt(4))}
	odd := []api.Value{{Kind: api.VBool, N: 2}, rawInt(math.MaxInt), rawInt(math.MinInt), {Kind: api.VString, S: "\x00\xff"}, rawMap(fields...), nested(20), nestedMaps(20)}
	for _, kind := range []int{math.MinInt, -1, 0, 1, 2, 3, 4, 5, 6, math.MaxInt} {
		odd = append(odd, api.Value{Kind: kind, N: 7, S: "s", List: list, Fields: fields})
	}
	return odd
}

// randomName draws from few names, so that fields often agree on them; some are not valid.
func randomName(r *rand.Rand) string {
	names := []string{"", "a", "b", "c", "aa", "a-b", "B", "a/b", "a b", "\xff"}
	return names[r.Intn(len(names))]
}

// randomValue makes any tree, mostly not a valid one.
func randomValue(r *rand.Rand, levels int) api.Value {
	v := api.Value{Kind: r.Intn(8) - 1}
	if r.Intn(3) == 0 {
		v.N = r.Intn(5) - 2
	}
	if r.Intn(3) == 0 {
		v.S = randomName(r)
	}
	if levels > 1 && r.Intn(2) == 0 {
		for range r.Intn(4) {
			v.List = append(v.List, randomValue(r, levels-1))
		}
	}
	if levels > 1 && r.Intn(2) == 0 {
		v.Fields = randomFields(r, levels-1)
	}
	return v
}

func randomFields(r *rand.Rand, levels int) []api.Field {
	f := []api.Field{}
	for range r.Intn(5) {
		f = append(f, field(randomName(r), randomValue(r, levels)))
	}
	return f
}

// randomValid makes a valid tree by means of the test alone.
func randomValid(r *rand.Rand, levels int) api.Value {
	kinds := 6
	if levels == 1 {
		kinds = 4
	}
	switch r.Intn(kinds) {
	case api.VBool:
		return api.Value{Kind: api.VBool, N: r.Intn(2)}
	case api.VInt:
		return rawInt(r.Intn(2*api.MaxNumber+1) - api.MaxNumber)
	case api.VString:
		return api.Value{Kind: api.VString, S: strings.Repeat("a\n ~", r.Intn(4))}
	case api.VList:
		v := rawList()
		for range r.Intn(4) {
			v.List = append(v.List, randomValid(r, levels-1))
		}
		return v
	case api.VMap:
		return randomValidMap(r, levels)
	}
	return api.Value{}
}

func randomValidMap(r *rand.Rand, levels int) api.Value {
	v := rawMap()
	for _, name := range []string{"-", "/", "0", "A", "_", "a", "aa", "b"} {
		if r.Intn(2) == 0 {
			v.Fields = append(v.Fields, field(name, randomValid(r, levels-1)))
		}
	}
	return v
}

func TestScalars(t *testing.T) { // P4.1
	checkSame(t, Null(), api.Value{Kind: api.VNull})
	checkSame(t, Bool(false), api.Value{Kind: api.VBool, N: 0})
	checkSame(t, Bool(true), api.Value{Kind: api.VBool, N: 1})
	for _, n := range []int{math.MinInt, -api.MaxNumber - 1, -api.MaxNumber, -1, 0, 1, 42, api.MaxNumber, api.MaxNumber + 1, math.MaxInt} {
		checkSame(t, Int(n), api.Value{Kind: api.VInt, N: n})
	}
	for _, s := range []string{"", "a", "a\nb", "\x00", "é\xff", strings.Repeat("a", api.MaxString+1)} {
		checkSame(t, String(s), api.Value{Kind: api.VString, S: s})
	}
}

func TestList(t *testing.T) { // P4.1
	checkSame(t, List(), api.Value{Kind: api.VList})
	checkSame(t, List([]api.Value{}...), api.Value{Kind: api.VList})
	checkSame(t, List(rawInt(2), rawInt(1), rawInt(2)), rawList(rawInt(2), rawInt(1), rawInt(2)))
	checkSame(t, List(List(List())), rawList(rawList(rawList())))
	checkSame(t, List(oddValues()...), rawList(oddValues()...))
	long := slices.Repeat([]api.Value{rawInt(1)}, api.MaxList+1)
	checkSame(t, List(long...), rawList(long...))
}

func TestMap(t *testing.T) { // P4.1
	one, two, three := rawInt(1), rawInt(2), rawInt(3)
	checkSame(t, Map(), api.Value{Kind: api.VMap})
	checkSame(t, Map([]api.Field{}...), api.Value{Kind: api.VMap})
	checkSame(t, Map(field("b", one), field("a", two)), rawMap(field("a", two), field("b", one)))
	checkSame(t, Map(field("a", one), field("a", two)), rawMap(field("a", two)))
	checkSame(t, Map(field("a", two), field("a", one)), rawMap(field("a", one)))
	checkSame(t, Map(field("b", three), field("a", one), field("b", two), field("c", one), field("b", one)), rawMap(field("a", one), field("b", one), field("c", one)))
	checkSame(t, Map(field("", one), field("\xff", two), field("", three)), rawMap(field("", three), field("\xff", two)))
	sorted := rawMap()
	for _, name := range []string{"", " ", "-", "/", "0", "A", "Z", "_", "a", "a-", "aa", "b", "é"} {
		sorted.Fields = append(sorted.Fields, field(name, one))
	}
	reversed := slices.Clone(sorted.Fields)
	slices.Reverse(reversed)
	checkSame(t, Map(reversed...), sorted)
	checkSame(t, Map(sorted.Fields...), sorted)
}

func TestMapKeepsOddValues(t *testing.T) { // P4.1
	for _, v := range oddValues() {
		checkSame(t, Map(field("a b", v)), rawMap(field("a b", v)))
	}
	long := rawMap()
	for i := range 1000 {
		long.Fields = append(long.Fields, field(strconv.Itoa(1000+i), rawInt(i)))
	}
	checkSame(t, Map(long.Fields...), long)
}

// expectMap works out by a Go map what Map returns.
func expectMap(f []api.Field) api.Value {
	last := map[string]api.Value{}
	for _, one := range f {
		last[one.Name] = one.V
	}
	v := rawMap()
	for _, name := range slices.Sorted(maps.Keys(last)) {
		v.Fields = append(v.Fields, field(name, last[name]))
	}
	return v
}

func TestMapKeepsTheLast(t *testing.T) { // P4.1
	r := rand.New(rand.NewSource(41))
	for range 2000 {
		f := []api.Field{}
		for i := range r.Intn(100) {
			f = append(f, field(randomName(r)+strconv.Itoa(r.Intn(3)), rawInt(i)))
		}
		checkSame(t, Map(f...), expectMap(f))
	}
}

func TestConstructorsShareNoMemory(t *testing.T) { // P4.1, P2
	r := rand.New(rand.NewSource(42))
	for range 2000 {
		a, b := randomValue(r, 4), randomValue(r, 4)
		elements := slices.Grow([]api.Value{a, b, a}, 5)
		checkApart(t, List(elements...), rawList(elements...))
		fields := slices.Grow([]api.Field{field("c", a), field("b", b), field("a", a), field("b", a)}, 5)
		checkApart(t, Map(fields...), rawMap(fields...))
		checkApart(t, Map(fields[:1]...), rawMap(fields...))
	}
	elements := []api.Value{rawInt(1), rawInt(2)}
	list := List(elements...)
	elements[0] = rawInt(9)
	checkSame(t, list, rawList(rawInt(1), rawInt(2)))
	inner := rawMap(field("x", rawList(rawInt(1))))
	outer := Map(field("m", inner))
	inner.Fields[0].V.List[0] = rawInt(9)
	checkSame(t, outer, rawMap(field("m", rawMap(field("x", rawList(rawInt(1)))))))
	outer.Fields[0].V.Fields[0].Name = "y"
	checkSame(t, inner, rawMap(field("x", rawList(rawInt(9)))))
}

func TestGet(t *testing.T) { // P4.5
	m := rawMap(field("b", rawInt(1)), field("a", rawList(rawInt(2))), field("b", rawInt(3)), field("", rawInt(4)), field("a b", rawInt(5)))
	checkGet(t, m, "b", rawInt(1), true)
	checkGet(t, m, "a", rawList(rawInt(2)), true)
	checkGet(t, m, "", rawInt(4), true)
	checkGet(t, m, "a b", rawInt(5), true)
	checkGet(t, m, "c", api.Value{}, false)
	checkGet(t, m, "A", api.Value{}, false)
	checkGet(t, rawMap(), "", api.Value{}, false)
	checkGet(t, rawMap(field("a", api.Value{})), "a", api.Value{}, true)
	for _, v := range oddValues() {
		checkGet(t, rawMap(field("a", rawInt(1)), field("x", v)), "x", v, true)
	}
}

func TestGetOfWhatIsNoMap(t *testing.T) { // P4.5
	for _, kind := range []int{math.MinInt, -1, 0, 1, 2, 3, 4, 6, math.MaxInt} {
		v := api.Value{Kind: kind, N: 1, S: "a", List: []api.Value{rawMap(field("a", rawInt(1)))}, Fields: []api.Field{field("a", rawInt(1))}}
		checkGet(t, v, "a", api.Value{}, false)
		checkGet(t, api.Value{Kind: kind}, "", api.Value{}, false)
	}
	m := api.Value{Kind: api.VMap, N: 1, S: "a", List: []api.Value{rawInt(2)}, Fields: []api.Field{field("a", rawInt(1))}}
	checkGet(t, m, "a", rawInt(1), true)
}

func TestWith(t *testing.T) { // P4.5
	one, two, three := rawInt(1), rawInt(2), rawInt(3)
	m := rawMap(field("a", one), field("c", two))
	checkWith(t, m, "b", three, rawMap(field("a", one), field("b", three), field("c", two)))
	checkWith(t, m, "", three, rawMap(field("", three), field("a", one), field("c", two)))
	checkWith(t, m, "d", three, rawMap(field("a", one), field("c", two), field("d", three)))
	checkWith(t, m, "a", three, rawMap(field("a", three), field("c", two)))
	checkWith(t, m, "c", m, rawMap(field("a", one), field("c", m)))
	checkWith(t, rawMap(), "a", api.Value{}, rawMap(field("a", api.Value{})))
	for _, v := range oddValues() {
		checkWith(t, m, "a b", v, rawMap(field("a", one), field("a b", v), field("c", two)))
	}
}

func TestWithFieldsOutOfOrder(t *testing.T) { // P4.5
	one, two, three, four := rawInt(1), rawInt(2), rawInt(3), rawInt(4)
	m := rawMap(field("c", one), field("a", two), field("c", three), field("b", one), field("a", one))
	checkWith(t, m, "a", four, rawMap(field("a", four), field("b", one), field("c", three)))
	checkWith(t, m, "c", four, rawMap(field("a", one), field("b", one), field("c", four)))
	checkWith(t, m, "d", four, rawMap(field("a", one), field("b", one), field("c", three), field("d", four)))
	m.N, m.S, m.List = 5, "s", []api.Value{one}
	checkWith(t, m, "a", four, rawMap(field("a", four), field("b", one), field("c", three)))
}

func TestWithOfWhatIsNoMap(t *testing.T) { // P4.5
	for _, kind := range []int{math.MinInt, -1, 0, 1, 2, 3, 4, 6, math.MaxInt} {
		v := api.Value{Kind: kind, N: 1, S: "a", List: []api.Value{rawInt(1)}, Fields: []api.Field{field("a", rawInt(1)), field("b", rawInt(2))}}
		checkWith(t, v, "a", rawInt(3), rawMap(field("a", rawInt(3))))
		checkWith(t, v, "c", v, rawMap(field("c", v)))
		checkWith(t, api.Value{Kind: kind}, "", api.Value{}, rawMap(field("", api.Value{})))
	}
}

func TestWithout(t *testing.T) { // P4.5
	one, two := rawInt(1), rawInt(2)
	m := rawMap(field("a", one), field("b", two))
	checkWithout(t, m, "a", rawMap(field("b", two)))
	checkWithout(t, m, "b", rawMap(field("a", one)))
	checkWithout(t, m, "c", m)
	checkWithout(t, m, "", m)
	checkWithout(t, rawMap(), "a", rawMap())
	checkWithout(t, rawMap(field("a", one)), "a", rawMap())
	odd := rawMap(field("c", one), field("a", one), field("b", one), field("a", two), field("c", two))
	checkWithout(t, odd, "a", rawMap(field("b", one), field("c", two)))
	checkWithout(t, odd, "d", rawMap(field("a", two), field("b", one), field("c", two)))
	odd.N, odd.S, odd.List = 5, "s", []api.Value{one}
	checkWithout(t, odd, "c", rawMap(field("a", two), field("b", one)))
}

func TestWithoutOfWhatIsNoMap(t *testing.T) { // P4.5
	for _, kind := range []int{math.MinInt, -1, 0, 1, 2, 3, 4, 6, math.MaxInt} {
		v := api.Value{Kind: kind, N: 1, S: "a", List: []api.Value{rawMap(field("a", rawInt(1)))}, Fields: []api.Field{field("b", rawInt(2)), field("a", rawInt(1)), field("b", rawInt(3))}}
		checkWithout(t, v, "a", v)
		checkWithout(t, v, "b", v)
		checkWithout(t, api.Value{Kind: kind}, "a", api.Value{Kind: kind})
	}
}

// expectWithout works out what Without returns for a map.
func expectWithout(v api.Value, name string) []api.Field {
	if v.Kind != api.VMap {
		return nil
	}
	return slices.DeleteFunc(slices.Clone(v.Fields), func(one api.Field) bool { return one.Name == name })
}

func TestFieldsOfAnyValue(t *testing.T) { // P4.5, P1, P2
	r := rand.New(rand.NewSource(45))
	for range 20000 {
		v, name, x := randomValue(r, 3), randomName(r), randomValue(r, 2)
		v.Fields = slices.Grow(v.Fields, r.Intn(3))
		if r.Intn(2) == 0 {
			v.Kind = api.VMap
		}
		checkWith(t, v, name, x, expectMap(append(expectWithout(v, name), field(name, x))))
		if v.Kind == api.VMap {
			checkWithout(t, v, name, expectMap(expectWithout(v, name)))
		} else {
			checkWithout(t, v, name, v)
		}
		place := slices.IndexFunc(v.Fields, func(one api.Field) bool { return one.Name == name })
		if v.Kind == api.VMap && place >= 0 {
			checkGet(t, v, name, v.Fields[place].V, true)
		} else {
			checkGet(t, v, name, api.Value{}, false)
		}
	}
}

func TestMapsBehaveAsMaps(t *testing.T) { // P4.7
	r := rand.New(rand.NewSource(47))
	for range 1500 {
		v, x := randomValidMap(r, 3), randomValid(r, 3)
		for _, name := range []string{"-", "A", "a", "ab", "b", "zz"} {
			set := With(v, name, x)
			if got, ok := Get(set, name); !ok || !Equal(got, x) {
				t.Fatalf("Get(With(%v, %q, %v)) = %v, %v", v, name, x, got, ok)
			}
			checkOtherFields(t, v, set, name)
			checkOtherFields(t, v, Without(v, name), name)
			if !Equal(Without(set, name), Without(v, name)) {
				t.Fatalf("Without(With(%v, %q, %v)) = %v", v, name, x, Without(set, name))
			}
			if old, ok := Get(v, name); ok && !Equal(With(v, name, old), v) {
				t.Fatalf("With(%v, %q) its own value = %v", v, name, With(v, name, old))
			}
			if _, ok := Get(Without(v, name), name); ok {
				t.Fatalf("Without(%v, %q) has the field", v, name)
			}
			if !Valid(v) || !Valid(set) || !Valid(Without(v, name)) {
				t.Fatalf("the map %v with or without %q is not valid", v, name)
			}
		}
	}
}

// checkOtherFields checks that a and b have the same fields but for those named name.
func checkOtherFields(t *testing.T, a, b api.Value, name string) {
	t.Helper()
	for _, pair := range [][2]api.Value{{a, b}, {b, a}} {
		for _, one := range pair[0].Fields {
			if one.Name != name {
				checkGet(t, pair[1], one.Name, one.V, true)
			}
		}
	}
}

func TestArgumentsAreNotModified(t *testing.T) { // P2
	r := rand.New(rand.NewSource(48))
	for range 2000 {
		v, x, f := randomValue(r, 4), randomValue(r, 4), slices.Grow(randomFields(r, 3), 3)
		oldV, oldX, oldF := duplicate(v), duplicate(x), duplicate(rawMap(f...))
		List(v, x)
		Map(f...)
		for _, name := range []string{"a", "b", "none"} {
			Get(v, name)
			With(v, name, x)
			Without(v, name)
		}
		Valid(v)
		Compare(v, x)
		Equal(v, x)
		Size(v)
		Depth(v)
		checkSame(t, v, oldV)
		checkSame(t, x, oldX)
		checkSame(t, rawMap(f...), oldF)
		checkSame(t, rawMap(f[:cap(f)][len(f):]...), rawMap(make([]api.Field, cap(f)-len(f))...))
	}
}

func TestDeepTrees(t *testing.T) { // P1
	const levels = 1 << 16
	for _, v := range []api.Value{nested(levels), nestedMaps(levels)} {
		if Valid(v) || Size(v) != levels || Depth(v) != levels || !Equal(v, v) {
			t.Error("a deep tree is not measured as it is")
		}
		if Depth(List(v)) != levels+1 || Depth(Map(field("a", v))) != levels+1 || Depth(With(v, "a", v)) != levels+1 {
			t.Error("a deep tree is not copied as it is")
		}
		if x, ok := Get(rawMap(field("a", v)), "a"); !ok || Size(x) != levels || Size(Without(rawMap(field("a", v)), "b")) != levels+1 {
			t.Error("a deep field is not copied as it is")
		}
	}
}

func TestExamples(t *testing.T) { // P4.1, P4.3, P4.4, P4.5
	m := Map(field("b", Int(1)), field("a", Int(2)), field("b", Int(3)))
	checkSame(t, m, rawMap(field("a", rawInt(2)), field("b", rawInt(3))))
	if Size(m) != 3 || Depth(m) != 2 {
		t.Errorf("Size %d and Depth %d of %v", Size(m), Depth(m), m)
	}
	checkCompare(t, Int(-1), Int(0), -1)
	checkCompare(t, String(""), Int(5), 1)
	checkSame(t, With(Int(1), "x", Null()), rawMap(field("x", api.Value{})))
}
