package label

import (
	"math"
	"math/rand"
	"regexp"
	"slices"
	"strconv"
	"strings"
	"testing"

	"orchestrator/api"
)

// The forms of keys and values in another way of writing, to hold the functions against.
var (
	keyForm   = regexp.MustCompile(`\A[a-z][a-z0-9./-]{0,39}\z`)
	valueForm = regexp.MustCompile(`\A[a-z0-9.-]{0,40}\z`)
)

// set makes a label set of keys and values in turn.
func set(words ...string) []api.Label {
	l := []api.Label{}
	for i := 0; i < len(words); i += 2 {
		l = append(l, api.Label{Key: words[i], Value: words[i+1]})
	}
	return l
}

func in(key string, values ...string) api.Requirement {
	return api.Requirement{Key: key, Op: api.OpIn, Values: values}
}

func notIn(key string, values ...string) api.Requirement {
	return api.Requirement{Key: key, Op: api.OpNotIn, Values: values}
}

func exists(key string) api.Requirement { return api.Requirement{Key: key, Op: api.OpExists} }

func notExists(key string) api.Requirement { return api.Requirement{Key: key, Op: api.OpNotExists} }

func selector(s ...api.Requirement) []api.Requirement { return s }

// numbers returns n different words of the given length, in increasing order.
func numbers(n, length int) []string {
	words := []string{}
	for i := range n {
		digits := strconv.Itoa(i)
		words = append(words, strings.Repeat("0", length-len(digits))+digits)
	}
	return words
}

// keys returns n different keys in increasing order.
func keys(n int) []string {
	words := []string{}
	for _, word := range numbers(n, 4) {
		words = append(words, "k"+word)
	}
	return words
}

func setOf(n int) []api.Label {
	l := []api.Label{}
	for _, key := range keys(n) {
		l = append(l, api.Label{Key: key, Value: "v"})
	}
	return l
}

func selectorOf(n int) []api.Requirement {
	s := []api.Requirement{}
	for _, key := range keys(n) {
		s = append(s, exists(key))
	}
	return s
}

func copySelector(s []api.Requirement) []api.Requirement {
	other := slices.Clone(s)
	for i := range other {
		other[i].Values = slices.Clone(s[i].Values)
	}
	return other
}

func equalSelectors(a, b []api.Requirement) bool {
	return slices.EqualFunc(a, b, func(a, b api.Requirement) bool {
		return a.Key == b.Key && a.Op == b.Op && slices.Equal(a.Values, b.Values)
	})
}

func checkValid(t *testing.T, l []api.Label, want bool) {
	t.Helper()
	if got := Valid(l); got != want {
		t.Errorf("Valid(%q) = %v", l, got)
	}
}

func checkValidSelector(t *testing.T, s []api.Requirement, want bool) {
	t.Helper()
	if got := ValidSelector(s); got != want {
		t.Errorf("ValidSelector(%+v) = %v", s, got)
	}
}

func checkGet(t *testing.T, l []api.Label, key, want string, found bool) {
	t.Helper()
	if v, ok := Get(l, key); v != want || ok != found {
		t.Errorf("Get(%q, %q) = %q, %v; want %q, %v", l, key, v, ok, want, found)
	}
}

func checkWith(t *testing.T, l []api.Label, key, value string, want []api.Label) {
	t.Helper()
	if got := With(l, key, value); !slices.Equal(got, want) {
		t.Errorf("With(%q, %q, %q) = %q; want %q", l, key, value, got, want)
	}
}

func checkMatches(t *testing.T, s []api.Requirement, l []api.Label, want bool) {
	t.Helper()
	if got := Matches(s, l); got != want {
		t.Errorf("Matches(%+v, %q) = %v", s, l, got)
	}
}

// edgeWords are words around the limits of keys and values, and words with every byte in every place.
func edgeWords() []string {
	words := []string{"", "a", "z", "0", "9", "-", ".", "/", "a-./z09", "example.com/role", "in", "notin", "é", "a\xff", "A", "aA", "_", "a_b"}
	for _, n := range []int{1, 2, 39, 40, 41, 42, 1000} {
		words = append(words, strings.Repeat("a", n), strings.Repeat("0", n), "a"+strings.Repeat("/", n-1), strings.Repeat(".", n))
	}
	for c := range 256 {
		b := string([]byte{byte(c)})
		words = append(words, b, "a"+b, b+"a", "a"+b+"a", strings.Repeat("a", 39)+b, strings.Repeat("a", 40)+b)
	}
	return words
}

func TestValidKeys(t *testing.T) { // P3.1
	for _, word := range edgeWords() {
		want := keyForm.MatchString(word)
		checkValid(t, set(word, ""), want)
		checkValidSelector(t, selector(exists(word)), want)
		checkValidSelector(t, selector(notExists(word)), want)
		checkValidSelector(t, selector(in(word, "v")), want)
		checkValidSelector(t, selector(notIn(word, "v")), want)
	}
}

func TestValidValues(t *testing.T) { // P3.1
	for _, word := range edgeWords() {
		want := valueForm.MatchString(word)
		checkValid(t, set("k", word), want)
		checkValid(t, set("j", "", "k", word), want)
		checkValidSelector(t, selector(in("k", word)), want)
		checkValidSelector(t, selector(notIn("k", word)), want)
	}
}

func TestValidKeysAndValuesByHand(t *testing.T) { // P3.1
	name := strings.Repeat("n", api.MaxName)
	checkValid(t, set(name, name), true)
	checkValid(t, set(name+"n", ""), false)
	checkValid(t, set("a", name+"n"), false)
	checkValid(t, set("", ""), false)
	checkValid(t, set("a", ""), true)
	checkValid(t, set("a/b", "1.x-y"), true)
	checkValid(t, set("a", "b/c"), false)
	checkValid(t, set("1", ""), false)
	checkValid(t, set("a", "-"), true)
	checkValid(t, set("a", "B"), false)
	checkValid(t, set("a b", ""), false)
	checkValid(t, set("a", "b", "c", "D"), false)
	checkValid(t, set("A", "b", "c", "d"), false)
}

func TestValidOrder(t *testing.T) { // P3.1
	checkValid(t, nil, true)
	checkValid(t, set(), true)
	checkValid(t, set("a", "1", "b", "2"), true)
	checkValid(t, set("b", "2", "a", "1"), false)
	checkValid(t, set("a", "1", "a", "1"), false)
	checkValid(t, set("a", "1", "a", "2"), false)
	checkValid(t, set("a", "2", "b", "1"), true)
	checkValid(t, set("a", "", "c", "", "b", ""), false)
	checkValid(t, set("a", "", "b", "", "a", ""), false)
	checkValid(t, set("a", "", "a-", "", "a.", "", "a/", "", "a0", "", "aa", "", "b", ""), true)
	checkValid(t, set("a/", "", "a.", ""), false)
	checkValid(t, set("aa", "", "a", ""), false)
}

func TestValidCount(t *testing.T) { // P3.1
	checkValid(t, setOf(api.MaxLabels-1), true)
	checkValid(t, setOf(api.MaxLabels), true)
	checkValid(t, setOf(api.MaxLabels+1), false)
	checkValid(t, setOf(1000), false)
}

func TestValidSelectorOperators(t *testing.T) { // P3.1
	for _, op := range []int{math.MinInt, -1, 0, 5, 6, math.MaxInt} {
		checkValidSelector(t, selector(api.Requirement{Key: "a", Op: op}), false)
		checkValidSelector(t, selector(api.Requirement{Key: "a", Op: op, Values: []string{"b"}}), false)
	}
	checkValidSelector(t, nil, true)
	checkValidSelector(t, selector(), true)
	checkValidSelector(t, selector(in("a")), false)
	checkValidSelector(t, selector(notIn("a")), false)
	checkValidSelector(t, selector(in("a", ""), notIn("a", "")), true)
	checkValidSelector(t, selector(exists("a"), notExists("a")), true)
	checkValidSelector(t, selector(api.Requirement{Key: "a", Op: api.OpExists, Values: []string{}}), true)
	checkValidSelector(t, selector(api.Requirement{Key: "a", Op: api.OpExists, Values: []string{""}}), false)
	checkValidSelector(t, selector(api.Requirement{Key: "a", Op: api.OpNotExists, Values: []string{"b"}}), false)
}

func TestValidSelectorValues(t *testing.T) { // P3.1
	for _, requirement := range []func(string, ...string) api.Requirement{in, notIn} {
		checkValidSelector(t, selector(requirement("a", "b", "c")), true)
		checkValidSelector(t, selector(requirement("a", "", "-", ".", "0", "a")), true)
		checkValidSelector(t, selector(requirement("a", "c", "b")), false)
		checkValidSelector(t, selector(requirement("a", "b", "b")), false)
		checkValidSelector(t, selector(requirement("a", "", "")), false)
		checkValidSelector(t, selector(requirement("a", "b", "c", "b")), false)
		checkValidSelector(t, selector(requirement("a", "b", "b/c")), false)
		checkValidSelector(t, selector(requirement("a", numbers(api.MaxList, 3)...)), true)
		checkValidSelector(t, selector(requirement("a", numbers(api.MaxList+1, 3)...)), false)
	}
}

func TestValidSelectorCount(t *testing.T) { // P3.1
	checkValidSelector(t, selectorOf(api.MaxLabels), true)
	checkValidSelector(t, selectorOf(api.MaxLabels+1), false)
	checkValidSelector(t, slices.Repeat(selector(exists("a")), api.MaxLabels), true)
	checkValidSelector(t, slices.Repeat(selector(exists("a")), api.MaxLabels+1), false)
	checkValidSelector(t, selector(exists("b"), in("a", "1"), exists("b")), true)
	checkValidSelector(t, selector(exists("b"), in("a")), false)
	checkValidSelector(t, selector(in("a"), exists("b")), false)
}

func TestGet(t *testing.T) { // P3.1
	l := set("b", "2", "a", "1", "b", "3", "", "none", "A b", "odd")
	checkGet(t, l, "a", "1", true)
	checkGet(t, l, "b", "2", true)
	checkGet(t, l, "", "none", true)
	checkGet(t, l, "A b", "odd", true)
	checkGet(t, l, "c", "", false)
	checkGet(t, l, "A", "", false)
	checkGet(t, nil, "", "", false)
	checkGet(t, set("a", ""), "a", "", true)
	checkGet(t, setOf(1000), "k0999", "v", true)
}

func TestWith(t *testing.T) { // P3.1
	checkWith(t, set("a", "1", "c", "3"), "b", "2", set("a", "1", "b", "2", "c", "3"))
	checkWith(t, nil, "a", "1", set("a", "1"))
	checkWith(t, set("a", "1"), "a", "2", set("a", "2"))
	checkWith(t, set("b", "1"), "a", "2", set("a", "2", "b", "1"))
	checkWith(t, set("a", "1"), "b", "2", set("a", "1", "b", "2"))
	checkWith(t, set("", "1"), "", "2", set("", "2"))
	checkWith(t, set("a", ""), "", "B c", set("", "B c", "a", ""))
}

func TestWithListsOutOfOrder(t *testing.T) { // P3.1
	checkWith(t, set("d", "1", "a", "2", "e", "3"), "b", "4", set("b", "4", "d", "1", "a", "2", "e", "3"))
	checkWith(t, set("a", "1", "d", "2", "a", "3", "d", "4"), "c", "5", set("a", "1", "c", "5", "d", "2", "a", "3", "d", "4"))
	checkWith(t, set("b", "1", "a", "2", "b", "3", "c", "4", "b", "5"), "b", "6", set("a", "2", "b", "6", "c", "4"))
	checkWith(t, set("c", "1", "b", "2", "a", "3"), "b", "4", set("b", "4", "c", "1", "a", "3"))
	checkWith(t, set("b", "1", "b", "2"), "b", "3", set("b", "3"))
	checkWith(t, set("c", "1", "b", "2", "a", "3"), "d", "4", set("c", "1", "b", "2", "a", "3", "d", "4"))
	checkWith(t, setOf(api.MaxLabels), "z", "", append(setOf(api.MaxLabels), set("z", "")...))
}

func TestMatches(t *testing.T) { // P3.1
	env := set("env", "prod", "tier", "web")
	checkMatches(t, selector(in("env", "prod"), notExists("x")), env, true)
	checkMatches(t, selector(notIn("tier", "web")), env, false)
	checkMatches(t, selector(notIn("env", "prod")), nil, true)
	checkMatches(t, nil, env, true)
	checkMatches(t, nil, nil, true)
	checkMatches(t, selector(in("env", "prod")), nil, false)
	checkMatches(t, selector(in("env", "dev", "prod")), env, true)
	checkMatches(t, selector(in("env", "dev", "test")), env, false)
	checkMatches(t, selector(notIn("env", "dev", "test")), env, true)
	checkMatches(t, selector(notIn("env", "dev", "prod")), env, false)
	checkMatches(t, selector(exists("tier")), env, true)
	checkMatches(t, selector(exists("x")), env, false)
	checkMatches(t, selector(notExists("tier")), env, false)
	checkMatches(t, selector(exists("env"), exists("tier"), exists("x")), env, false)
	checkMatches(t, selector(exists("x"), exists("env")), env, false)
	checkMatches(t, selector(in("env", "prod"), in("env", "dev")), env, false)
}

func TestMatchesAcceptsAnything(t *testing.T) { // P3.1
	odd := set("B", "x", "a", "1", "B", "y", "", "")
	checkMatches(t, selector(in("B", "x")), odd, true)
	checkMatches(t, selector(in("B", "y")), odd, false)
	checkMatches(t, selector(notIn("B", "y")), odd, true)
	checkMatches(t, selector(in("", "")), odd, true)
	checkMatches(t, selector(in("none", "")), odd, false)
	checkMatches(t, selector(in("a")), odd, false)
	checkMatches(t, selector(notIn("a")), odd, true)
	checkMatches(t, selector(in("a", "2", "1", "2")), odd, true)
	checkMatches(t, selector(api.Requirement{Key: "a", Op: api.OpExists, Values: []string{"2"}}), odd, true)
	checkMatches(t, selector(api.Requirement{Key: "a", Op: api.OpNotExists, Values: []string{"2"}}), odd, false)
	checkMatches(t, slices.Repeat(selector(exists("a")), 1000), odd, true)
	checkMatches(t, selector(in("a", append(numbers(1000, 4), "1")...)), odd, true)
	for _, op := range []int{math.MinInt, -1, 0, 5, math.MaxInt} {
		checkMatches(t, selector(api.Requirement{Key: "a", Op: op, Values: []string{"1"}}), odd, false)
		checkMatches(t, selector(api.Requirement{Key: "b", Op: op, Values: []string{"1"}}), odd, false)
		checkMatches(t, selector(exists("a"), api.Requirement{Key: "a", Op: op}), odd, false)
	}
}

// randomWord draws from few words, some of them not valid, so that lists often agree on them.
func randomWord(r *rand.Rand) string {
	words := []string{"", "a", "b", "c", "aa", "a-b", "B", "1", "in", "a/b"}
	return words[r.Intn(len(words))]
}

func randomWords(r *rand.Rand, limit int) []string {
	words := []string{}
	for range r.Intn(limit + 1) {
		words = append(words, randomWord(r))
	}
	return words
}

// randomSet makes any list of labels.
func randomSet(r *rand.Rand) []api.Label {
	l := []api.Label{}
	for range r.Intn(6) {
		l = append(l, api.Label{Key: randomWord(r), Value: randomWord(r)})
	}
	return l
}

// randomValidSet makes a valid label set of up to the greatest size, by means of the test alone.
func randomValidSet(r *rand.Rand) []api.Label {
	l := []api.Label{}
	for _, i := range r.Perm(20)[:r.Intn(api.MaxLabels+1)] {
		l = append(l, api.Label{Key: "k" + strconv.Itoa(i), Value: strconv.Itoa(r.Intn(3))})
	}
	slices.SortFunc(l, func(a, b api.Label) int { return strings.Compare(a.Key, b.Key) })
	return l
}

// randomSelector makes any list of requirements, some with unknown operators.
func randomSelector(r *rand.Rand) []api.Requirement {
	s := []api.Requirement{}
	for range r.Intn(3) {
		s = append(s, api.Requirement{Key: randomWord(r), Op: r.Intn(12) % 6, Values: randomWords(r, 3)})
	}
	return s
}

func TestOppositeOperators(t *testing.T) { // P3.4
	r := rand.New(rand.NewSource(34))
	for range 20000 {
		l, key, values := randomSet(r), randomWord(r), randomWords(r, 4)
		if Matches(selector(in(key, values...)), l) == Matches(selector(notIn(key, values...)), l) {
			t.Fatalf("%q in and notin %q agree on %q", key, values, l)
		}
		if Matches(selector(exists(key)), l) == Matches(selector(notExists(key)), l) {
			t.Fatalf("%q exists and not on %q", key, l)
		}
	}
}

func TestGetAfterWith(t *testing.T) { // P3.5
	r := rand.New(rand.NewSource(35))
	for range 20000 {
		l, key, value := randomSet(r), randomWord(r), randomWord(r)
		result := With(l, key, value)
		checkGet(t, result, key, value, true)
		for _, other := range append(l, set("none", "")...) {
			if other.Key != key {
				want, found := Get(l, other.Key)
				checkGet(t, result, other.Key, want, found)
			}
		}
	}
}

func TestWithKeepsSetsValid(t *testing.T) { // P3.5
	r := rand.New(rand.NewSource(36))
	for range 20000 {
		l, key := randomValidSet(r), "k"+strconv.Itoa(r.Intn(22))
		checkValid(t, l, true)
		_, found := Get(l, key)
		checkValid(t, With(l, key, "v"), found || len(l) < api.MaxLabels)
	}
	full := setOf(api.MaxLabels)
	for _, one := range full {
		checkValid(t, With(full, one.Key, "other"), true)
	}
	checkValid(t, With(full, "k", ""), false)
	checkValid(t, With(full[1:], "k", ""), true)
}

func TestSelectorsConcatenate(t *testing.T) { // P3.6
	r := rand.New(rand.NewSource(37))
	both := 0
	for range 50000 {
		a, b, l := randomSelector(r), randomSelector(r), randomSet(r)
		want := Matches(a, l) && Matches(b, l)
		checkMatches(t, slices.Concat(a, b), l, want)
		if want && len(a) > 0 && len(b) > 0 {
			both++
		}
	}
	if both < 1000 {
		t.Errorf("only %d cases in which two selectors match", both)
	}
}

func TestArgumentsAreNotModified(t *testing.T) { // P2
	l := append(set("a", "1", "c", "3", "a", "2"), set("x", "x", "y", "y")...)
	before := slices.Clone(l)
	for _, key := range []string{"", "a", "b", "c", "d"} {
		// The room behind the list belongs to the caller.
		result := With(l[:3], key, "new")
		for i := range result {
			result[i] = api.Label{Key: "spoiled"}
		}
		_ = append(result, api.Label{Key: "spoiled"})
		if !slices.Equal(l, before) {
			t.Fatalf("With changes its argument: %q", l)
		}
	}
	empty := make([]api.Label, 0, 4)
	With(empty, "a", "1")[0].Key = "spoiled"
	if empty[:1][0] != (api.Label{}) {
		t.Error("With writes behind an empty list")
	}
	s := selector(in("b", "c", "a", "b"), exists("a"), notIn("a", "z", "y"))
	unchanged := copySelector(s)
	Matches(s, l)
	ValidSelector(s)
	if Print(s); !equalSelectors(s, unchanged) {
		t.Errorf("a selector is changed: %+v", s)
	}
}

func TestAllArguments(t *testing.T) { // P1: every argument has an answer
	long := strings.Repeat("\xff", 1<<20)
	checkValid(t, set(long, long), false)
	checkValidSelector(t, selector(in(long, long)), false)
	checkGet(t, set(long, "v"), long, "v", true)
	checkWith(t, set(long, "v"), long, long, set(long, long))
	checkMatches(t, selector(in(long, long)), set(long, long), true)
	checkValid(t, make([]api.Label, 1<<20), false)
	checkValidSelector(t, make([]api.Requirement, 1<<20), false)
	checkMatches(t, make([]api.Requirement, 1<<20), nil, false)
	checkWith(t, make([]api.Label, 1<<20), "", "v", set("", "v"))
	for _, text := range []string{long, strings.Repeat("(", 1<<20), strings.Repeat("a,", 1<<20)} {
		checkParse(t, text, nil, api.ErrTooLong)
	}
	for _, text := range []string{"(", "!", "!=", "=", ",", ")", "a in ", "\x00", "\xff"} {
		checkParse(t, strings.Repeat(text, api.MaxText/len(text)), nil, api.ErrSyntax)
	}
}
