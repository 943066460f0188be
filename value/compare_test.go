package value

import (
	"bytes"
	"encoding/binary"
	"math"
	"math/rand"
	"slices"
	"testing"

	"orchestrator/api"
)

func checkCompare(t *testing.T, a, b api.Value, want int) {
	t.Helper()
	if got := Compare(a, b); got != want {
		t.Errorf("Compare(%+v, %+v) = %d; want %d", a, b, got, want)
	}
	if got := Compare(b, a); got != -want {
		t.Errorf("Compare(%+v, %+v) = %d; want %d", b, a, got, -want)
	}
	if Equal(a, b) != (want == 0) || Equal(b, a) != (want == 0) {
		t.Errorf("Equal(%+v, %+v) = %v, %v; want %v", a, b, Equal(a, b), Equal(b, a), want == 0)
	}
}

// checkIncreasing checks that each value is less than all that follow it.
func checkIncreasing(t *testing.T, l ...api.Value) {
	t.Helper()
	for i, a := range l {
		checkCompare(t, a, duplicate(a), 0)
		for _, b := range l[i+1:] {
			checkCompare(t, a, b, -1)
		}
	}
}

// sortKey writes a value as bytes whose order is the order of the values: each part ends by a byte that is less than any that goes on.
func sortKey(key []byte, v api.Value) []byte {
	key = binary.BigEndian.AppendUint64(key, uint64(v.Kind)^1<<63)
	key = binary.BigEndian.AppendUint64(key, uint64(v.N)^1<<63)
	key = textKey(key, v.S)
	for _, one := range v.List {
		key = sortKey(append(key, 1), one)
	}
	key = append(key, 0)
	for _, one := range v.Fields {
		key = sortKey(textKey(append(key, 1), one.Name), one.V)
	}
	return append(key, 0)
}

func textKey(key []byte, s string) []byte {
	for _, c := range []byte(s) {
		key = append(key, 1, c)
	}
	return append(key, 0)
}

func TestCompareMembersInOrder(t *testing.T) { // P4.4
	// Each value is greater than the one before it in one member, and less in all members that count less.
	low := api.Value{}
	high := api.Value{Kind: 1, N: 1, S: "b", List: []api.Value{rawInt(1)}, Fields: []api.Field{field("b", rawInt(1))}}
	checkIncreasing(t,
		api.Value{Kind: low.Kind, N: low.N, S: low.S, List: low.List, Fields: high.Fields},
		api.Value{Kind: low.Kind, N: low.N, S: low.S, List: high.List, Fields: low.Fields},
		api.Value{Kind: low.Kind, N: low.N, S: high.S, List: low.List, Fields: low.Fields},
		api.Value{Kind: low.Kind, N: high.N, S: low.S, List: low.List, Fields: low.Fields},
		api.Value{Kind: high.Kind, N: low.N, S: low.S, List: low.List, Fields: low.Fields},
	)
	checkIncreasing(t,
		api.Value{Kind: math.MinInt, N: math.MaxInt}, api.Value{Kind: -1, S: "z"}, Null(), Bool(false), Bool(true),
		Int(-1), Int(0), String(""), String("a"), List(), List(Null()), Map(), Map(field("a", Null())), api.Value{Kind: 6}, api.Value{Kind: math.MaxInt},
	)
}

func TestCompareScalars(t *testing.T) { // P4.4
	checkIncreasing(t, rawInt(math.MinInt), rawInt(-api.MaxNumber), rawInt(-1), rawInt(0), rawInt(1), rawInt(2), rawInt(10), rawInt(math.MaxInt))
	checkIncreasing(t, String(""), String("\x00"), String("\n"), String(" "), String("A"), String("B"), String("a"), String("a\x00"), String("aa"), String("b"), String("\x80"), String("é"), String("\xff"))
	checkIncreasing(t, api.Value{Kind: api.VBool, N: -1}, Bool(false), Bool(true), api.Value{Kind: api.VBool, N: 2})
}

func TestCompareLists(t *testing.T) { // P4.4
	one, two := rawInt(1), rawInt(2)
	checkIncreasing(t, rawList(), rawList(Null()), rawList(one), rawList(one, Null()), rawList(one, one), rawList(one, one, two), rawList(one, two), rawList(two), rawList(two, one), rawList(rawList()), rawList(rawList(), one), rawList(rawList(one)), rawList(rawMap()))
	checkIncreasing(t, many(63), many(64), many(65))
}

func TestCompareFields(t *testing.T) { // P4.4
	one, two := rawInt(1), rawInt(2)
	checkIncreasing(t, rawMap(), rawMap(field("", one)), rawMap(field("A", two)), rawMap(field("a", one)), rawMap(field("a", one), field("a", one)), rawMap(field("a", one), field("b", one)), rawMap(field("a", one), field("b", two)), rawMap(field("a", two)), rawMap(field("a", two), field("A", one)), rawMap(field("aa", one)), rawMap(field("b", Null())))
	// The fields count as they stand: neither sorted, nor found by name.
	checkCompare(t, rawMap(field("a", one), field("b", two)), rawMap(field("b", two), field("a", one)), -1)
	checkCompare(t, rawMap(field("a", one), field("a", two)), rawMap(field("a", two)), -1)
}

func TestCompareNilAndEmpty(t *testing.T) { // P4.4
	for kind := -1; kind <= 6; kind++ {
		none, empty := api.Value{Kind: kind}, api.Value{Kind: kind, List: []api.Value{}, Fields: []api.Field{}}
		checkCompare(t, none, empty, 0)
		checkCompare(t, rawList(none), rawList(empty), 0)
		checkCompare(t, rawMap(field("a", none)), rawMap(field("a", empty)), 0)
	}
}

func TestCompareAgreesWithSortKeys(t *testing.T) { // P4.4
	r := rand.New(rand.NewSource(44))
	for range 50000 {
		a, b := randomValue(r, 3), randomValue(r, 3)
		if r.Intn(2) == 0 {
			b = duplicate(a)
			spoil(r, &b)
		}
		checkCompare(t, a, b, bytes.Compare(sortKey(nil, a), sortKey(nil, b)))
	}
}

// fewValues are values that differ in few members, valid and not.
func fewValues() []api.Value {
	r := rand.New(rand.NewSource(46))
	l := append(oddValues(), api.Value{List: []api.Value{}}, rawList(), rawMap())
	for range 40 {
		v := randomValue(r, 3)
		other := duplicate(v)
		spoil(r, &other)
		l = append(l, v, duplicate(v), other, randomValid(r, 3))
	}
	return l
}

func TestCompareIsATotalOrder(t *testing.T) { // P4.6
	l := fewValues()
	for _, a := range l {
		for _, b := range l {
			c := Compare(a, b)
			if c != -Compare(b, a) || c < -1 || c > 1 {
				t.Fatalf("%v and %v compare as %d and %d", a, b, c, Compare(b, a))
			}
			if (c == 0) != Equal(a, b) || (c == 0) != same(a, b) {
				t.Fatalf("%v and %v compare as %d, but Equal is %v", a, b, c, Equal(a, b))
			}
			for _, d := range l {
				if c <= 0 && Compare(b, d) <= 0 && Compare(a, d) > 0 {
					t.Fatalf("%v, %v and %v are in no order", a, b, d)
				}
			}
		}
	}
}

func TestCompareSorts(t *testing.T) { // P4.6
	l := fewValues()
	byKey := slices.Clone(l)
	slices.SortFunc(l, Compare)
	slices.SortFunc(byKey, func(a, b api.Value) int { return bytes.Compare(sortKey(nil, a), sortKey(nil, b)) })
	if !slices.EqualFunc(l, byKey, same) {
		t.Error("the values are not sorted as their keys are")
	}
}
