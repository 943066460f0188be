package fields

import (
	"math/rand"
	"slices"
	"testing"
)

// sameSet reports whether a and b agree, but for the difference of nil and empty.
func sameSet(a, b []string) bool { return slices.Equal(a, b) }

// runSets calls one of the three functions; it checks that the arguments, and what is behind them, stay as they were, that the result has memory of its own, and that a second call answers the same.
func runSets(t *testing.T, name string, call func(a, b []string) []string, a, b []string) []string {
	t.Helper()
	wholeA, wholeB := a[:cap(a)], b[:cap(b)]
	beforeA, beforeB := slices.Clone(wholeA), slices.Clone(wholeB)
	got := call(a, b)
	result := slices.Clone(got)
	for i := range got[:cap(got)] {
		got[:cap(got)][i] = "changed"
	}
	if !slices.Equal(wholeA, beforeA) || !slices.Equal(wholeB, beforeB) {
		t.Fatalf("%s changed %q, %q to %q, %q, or shares memory with them", name, beforeA, beforeB, wholeA, wholeB)
	}
	if again := call(a, b); !sameSet(result, again) {
		t.Fatalf("%s(%q, %q) = %q and %q", name, a, b, result, again)
	}
	return result
}

// checkSets checks the answers of the three functions.
func checkSets(t *testing.T, a, b, union, intersection, difference []string) {
	t.Helper()
	if got := runSets(t, "Union", Union, a, b); !sameSet(got, union) {
		t.Errorf("Union(%q, %q) = %q; want %q", a, b, got, union)
	}
	if got := runSets(t, "Intersect", Intersect, a, b); !sameSet(got, intersection) {
		t.Errorf("Intersect(%q, %q) = %q; want %q", a, b, got, intersection)
	}
	if got := runSets(t, "Minus", Minus, a, b); !sameSet(got, difference) {
		t.Errorf("Minus(%q, %q) = %q; want %q", a, b, got, difference)
	}
}

func set(l ...string) []string { return l }

func TestSets(t *testing.T) { // P10.2
	checkSets(t, set("a", "b", "c"), set("b", "c", "d"), set("a", "b", "c", "d"), set("b", "c"), set("a"))
	checkSets(t, set("b", "c", "d"), set("a", "b", "c"), set("a", "b", "c", "d"), set("b", "c"), set("d"))
	checkSets(t, set("a", "c"), set("b", "d"), set("a", "b", "c", "d"), nil, set("a", "c"))
	checkSets(t, set("a", "b"), set("a", "b"), set("a", "b"), set("a", "b"), nil)
	for _, none := range [][]string{nil, {}, make([]string, 0, 3)} {
		checkSets(t, none, nil, nil, nil, nil)
		checkSets(t, none, set(), nil, nil, nil)
		checkSets(t, set("a", "b"), none, set("a", "b"), nil, set("a", "b"))
		checkSets(t, none, set("a", "b"), set("a", "b"), nil, nil)
	}
	// The empty string is one like others.
	checkSets(t, set(""), nil, set(""), nil, set(""))
	checkSets(t, nil, set(""), set(""), nil, nil)
	checkSets(t, set("", "a"), set(""), set("", "a"), set(""), set("a"))
	checkSets(t, set("a"), set("", "b"), set("", "a", "b"), nil, set("a"))
}

func TestSetsInAnyOrder(t *testing.T) { // P10.2
	checkSets(t, set("c", "a", "b"), set("d", "b", "c"), set("a", "b", "c", "d"), set("b", "c"), set("a"))
	checkSets(t, set("a", "a", "b", "b"), set("b", "b"), set("a", "b"), set("b"), set("a"))
	checkSets(t, set("b", "a", "b"), set("c", "c"), set("a", "b", "c"), nil, set("a", "b"))
	checkSets(t, set("b", "a", "b", "a"), set("b", "a", "a", "b"), set("a", "b"), set("a", "b"), nil)
	checkSets(t, set("x", "x", "x"), nil, set("x"), nil, set("x"))
	checkSets(t, nil, set("x", "x", "x"), set("x"), nil, nil)
}

func TestSetsInByteOrder(t *testing.T) { // P10.2
	// Strings of any bytes, a path or not.
	all := set("", "\x00", "\n", " ", "!", "-", ".", "/", "0", "10", "9", "A", "B", "[", "a", "a-", "a-b", "a.b", "a/b", "a0", "aB", "a[k=\"\"]", "a_", "aa", "b", "~", "\x7f", "\x80", "é", "\xff", "\xff\xff")
	if !slices.IsSorted(all) {
		t.Fatal("the strings are not what they should be")
	}
	backwards := slices.Clone(all)
	slices.Reverse(backwards)
	checkSets(t, all, nil, all, nil, all)
	checkSets(t, backwards, nil, all, nil, all)
	checkSets(t, nil, backwards, all, nil, nil)
	checkSets(t, backwards, all, all, all, nil)
	for i, one := range all {
		others := slices.Delete(slices.Clone(all), i, i+1)
		checkSets(t, backwards, set(one), all, set(one), others)
		checkSets(t, set(one), backwards, all, set(one), nil)
		checkSets(t, others, set(one, one), all, nil, others)
		checkSets(t, backwards, others, all, others, set(one))
	}
}

func TestSetsWithRoom(t *testing.T) { // P2
	// Arguments with strings behind their ends, which stay, and arguments that share memory.
	l := set("d", "c", "b", "a", "b", "c")
	checkSets(t, l[:2], l[1:3], set("b", "c", "d"), set("c"), set("d"))
	checkSets(t, l[:3], l[:3], set("b", "c", "d"), set("b", "c", "d"), nil)
	checkSets(t, l[:0], l[3:4], set("a"), nil, nil)
	checkSets(t, l[3:4], l[:0], set("a"), nil, set("a"))
}

// eachList calls do with each list of at most n strings of the given ones.
func eachList(strings []string, n int, do func(l []string)) {
	var grow func(l []string)
	grow = func(l []string) {
		do(l)
		if len(l) == n {
			return
		}
		for _, one := range strings {
			grow(append(slices.Clone(l), one))
		}
	}
	grow(nil)
}

// pick returns those of the strings, which are in order, for which in answers true.
func pick(strings []string, in func(one string) bool) []string {
	var l []string
	for _, one := range strings {
		if in(one) {
			l = append(l, one)
		}
	}
	return l
}

// checkPicked checks the three functions string by string: each of the strings, which are all that there are, must be in a result or not.
func checkPicked(t *testing.T, strings, a, b []string) {
	t.Helper()
	inA := func(one string) bool { return slices.Contains(a, one) }
	inB := func(one string) bool { return slices.Contains(b, one) }
	checkSets(t, a, b, pick(strings, func(one string) bool { return inA(one) || inB(one) }), pick(strings, func(one string) bool { return inA(one) && inB(one) }), pick(strings, func(one string) bool { return inA(one) && !inB(one) }))
}

func TestAllShortSets(t *testing.T) { // P10.2
	strings := set("", "a", "a.b", "b")
	eachList(strings, 3, func(a []string) {
		eachList(strings, 3, func(b []string) { checkPicked(t, strings, a, b) })
	})
}

func TestManySets(t *testing.T) { // P10.2
	r := rand.New(rand.NewSource(102))
	for range 3000 {
		strings := set()
		for range 1 + r.Intn(60) {
			one := make([]byte, r.Intn(4))
			for i := range one {
				one[i] = "ab.[\xff"[r.Intn(5)]
			}
			strings = append(strings, string(one))
		}
		slices.Sort(strings)
		strings = slices.Compact(strings)
		some := func() []string {
			l := make([]string, r.Intn(80))
			for i := range l {
				l[i] = strings[r.Intn(len(strings))]
			}
			return l
		}
		checkPicked(t, strings, some(), some())
	}
}

func TestLongSets(t *testing.T) { // P1, P10.2
	// So long that a function that goes through one set for each string of the other one would not end in time.
	const n = 1 << 19
	a, b := make([]string, n), make([]string, n)
	for i := range n {
		text := func(k int) string { return string([]byte{byte(k >> 16), byte(k >> 8), byte(k)}) }
		a[i], b[n-1-i] = text(i), text(i+n/2)
	}
	for name, want := range map[string]int{"Union": n + n/2, "Intersect": n / 2, "Minus": n / 2} {
		call := map[string]func(a, b []string) []string{"Union": Union, "Intersect": Intersect, "Minus": Minus}[name]
		if got := call(a, b); len(got) != want || !slices.IsSorted(got) {
			t.Errorf("%s has %d strings; want %d", name, len(got), want)
		}
	}
}
