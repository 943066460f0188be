package path

import (
	"math"
	"math/rand"
	"regexp"
	"slices"
	"strings"
	"testing"

	"orchestrator/api"
)

// The forms of names and of the values of key steps as regular expressions.
var (
	nameForm  = regexp.MustCompile(`\A[a-zA-Z0-9_/-]{1,40}\z`)
	valueForm = regexp.MustCompile(`\A[\n\x20-\x7e]{0,200}\z`)
)

func name(s string) api.Step { return api.Step{Kind: api.SField, Name: s} }

func index(n int) api.Step { return api.Step{Kind: api.SIndex, Index: n} }

func key(name, value string) api.Step { return api.Step{Kind: api.SKey, Name: name, Value: value} }

// steps returns a path: a string is a field, a number an index, and a step is itself.
func steps(parts ...any) []api.Step {
	p := []api.Step{}
	for _, part := range parts {
		switch one := part.(type) {
		case string:
			p = append(p, name(one))
		case int:
			p = append(p, index(one))
		case api.Step:
			p = append(p, one)
		}
	}
	return p
}

func letters(n int) string { return strings.Repeat("a", n) }

// names returns a path of n fields named a.
func names(n int) []api.Step { return slices.Repeat(steps("a"), n) }

// expectValid works out what Valid must answer by the regular expressions.
func expectValid(p []api.Step) bool {
	for _, s := range p {
		named, without := nameForm.MatchString(s.Name), s
		without.Kind = 0
		switch s.Kind {
		case 1:
			without.Name = ""
		case 2:
			named, without.Index = s.Index >= 0 && s.Index <= 64, 0
		case 3:
			named = named && valueForm.MatchString(s.Value)
			without.Name, without.Value = "", ""
		default:
			return false
		}
		if !named || without != (api.Step{}) {
			return false
		}
	}
	return len(p) <= 16
}

func checkValid(t *testing.T, p []api.Step, want bool) {
	t.Helper()
	if got := Valid(p); got != want {
		t.Errorf("Valid(%+v) = %v; want %v", p, got, want)
	}
}

// checkStep checks whether a step is valid, wherever it stands in a path.
func checkStep(t *testing.T, s api.Step, want bool) {
	t.Helper()
	checkValid(t, steps(s), want)
	checkValid(t, steps("a", s, 0), want)
	checkValid(t, append(names(15), s), want)
}

// oddSteps are steps that are not valid, each for one reason.
func oddSteps() []api.Step {
	return []api.Step{
		{}, {Kind: -1, Name: "a"}, {Kind: 0, Name: "a"}, {Kind: 4, Name: "a"}, {Kind: 4, Index: 1}, {Kind: math.MaxInt, Name: "a"}, {Kind: math.MinInt, Name: "a", Value: "a"},
		{Kind: api.SField, Name: "a", Index: 1}, {Kind: api.SField, Name: "a", Index: -1}, {Kind: api.SField, Name: "a", Value: "a"}, {Kind: api.SField, Name: "a", Value: "\xff"},
		{Kind: api.SIndex, Name: "a"}, {Kind: api.SIndex, Index: 1, Name: "a"}, {Kind: api.SIndex, Index: 1, Value: "a"}, {Kind: api.SIndex, Value: " "},
		{Kind: api.SKey, Name: "a", Value: "a", Index: 1}, {Kind: api.SKey, Name: "a", Value: "a", Index: -1}, {Kind: api.SKey, Name: "a", Value: "a", Index: math.MinInt},
		name(""), name("."), name("a.b"), name("a b"), name("a\n"), name("é"), name("\xff"), name("a\xc3"), name("\ufffd"), name("a[0]"), name(letters(41)), name(letters(30000)), name("ａ"), name("٠"),
		index(-1), index(65), index(100), index(math.MaxInt), index(math.MinInt),
		key("", ""), key("", "a"), key(".", "a"), key(letters(41), "a"), key("é", "a"), key("a", letters(201)), key("a", letters(30000)), key("a", "\t"), key("a", "é"), key("a", "\xff"), key("a", "\x7f"), key("a", "\x00"), key("a", "a\r\n"),
	}
}

func TestValidSteps(t *testing.T) { // P6.1
	for _, s := range []api.Step{
		name("a"), name("Z"), name("0"), name("007"), name("-"), name("_"), name("/"), name("a-b_c/D9"), name(letters(39)), name(letters(40)),
		index(0), index(1), index(9), index(10), index(63), index(64),
		key("a", ""), key("0", "1"), key("a", "a b"), key("a", "\"\\\n"), key(letters(40), letters(200)), key("a", letters(199)), key("a", strings.Repeat("\n", 200)), key("-_/", "]"),
	} {
		checkStep(t, s, true)
	}
	for _, s := range oddSteps() {
		checkStep(t, s, false)
	}
	for n := -70; n <= 70; n++ {
		checkStep(t, index(n), 0 <= n && n <= 64)
		checkStep(t, name(letters(max(0, n))), 1 <= n && n <= 40)
		checkStep(t, key(letters(max(0, n)), "x"), 1 <= n && n <= 40)
		checkStep(t, key("k", letters(200+n)), n <= 0)
	}
}

func TestValidBytes(t *testing.T) { // P6.1
	for c := range 256 {
		one := string([]byte{byte(c)})
		inName := strings.Contains("abcdefghijklmnopqrstuvwxyzABCDEFGHIJKLMNOPQRSTUVWXYZ0123456789-_/", one)
		inValue := c == 10 || c >= 32 && c <= 126
		for _, s := range []string{one, one + "b", "b" + one, "b" + one + "b", letters(39) + one, one + letters(39)} {
			checkStep(t, name(s), inName)
			checkStep(t, key(s, "x"), inName)
			checkStep(t, key("k", s), inValue)
		}
		checkStep(t, name(letters(40)+one), false)
		checkStep(t, key("k", letters(199)+one), inValue)
		checkStep(t, key("k", letters(200)+one), false)
	}
	// The runes of two and more bytes count by their bytes, and none of them may stand in a name.
	for _, r := range []rune{0x80, 0xaa, 0xe9, 0x131, 0x17f, 0x212a, 0x660, 0xff21, 0xff41, 0xfffd, 0x10ffff} {
		for _, s := range []string{string(r), "a" + string(r), string(r) + "a"} {
			checkStep(t, name(s), false)
			checkStep(t, key(s, "x"), false)
			checkStep(t, key("k", s), false)
		}
	}
}

func TestValidLength(t *testing.T) { // P6.1
	checkValid(t, nil, true)
	checkValid(t, []api.Step{}, true)
	for _, s := range []api.Step{name("a"), index(1), key("k", "x")} {
		for n := range 40 {
			checkValid(t, slices.Repeat(steps(s), n), n <= 16)
		}
		checkValid(t, slices.Repeat(steps(s), 100000), false)
	}
}

func randomStep(r *rand.Rand) api.Step {
	words := []string{"", "a", "b", "k", "a b", "x\n", "\xff", letters(40), letters(41), letters(200), letters(201)}
	numbers := []int{0, 0, 0, 0, -1, 1, 63, 64, 65, math.MaxInt}
	s := api.Step{Kind: r.Intn(6) - 1}
	if s.Kind != api.SIndex || r.Intn(9) == 0 {
		s.Name = words[r.Intn(len(words))]
	}
	if s.Kind == api.SKey || r.Intn(9) == 0 {
		s.Value = words[r.Intn(len(words))]
	}
	if s.Kind == api.SIndex || r.Intn(9) == 0 {
		s.Index = numbers[r.Intn(len(numbers))]
	}
	return s
}

func TestValidAgreesWithTheChapter(t *testing.T) { // P6.1
	r := rand.New(rand.NewSource(61))
	counts := map[bool]int{}
	for range 50000 {
		p := names(r.Intn(18))
		for range r.Intn(3) {
			p = slices.Insert(p, r.Intn(len(p)+1), randomStep(r))
		}
		want := expectValid(p)
		counts[want]++
		checkValid(t, p, want)
	}
	if counts[true] < 5000 || counts[false] < 5000 {
		t.Errorf("the paths are %v", counts)
	}
}

// begins reports whether p begins with q.
func begins(p, q []api.Step) bool {
	for i, s := range q {
		if i >= len(p) || p[i] != s {
			return false
		}
	}
	return true
}

func checkPrefix(t *testing.T, p, q []api.Step, want bool) {
	t.Helper()
	if got := HasPrefix(p, q); got != want {
		t.Errorf("HasPrefix(%+v, %+v) = %v; want %v", p, q, got, want)
	}
}

func TestHasPrefix(t *testing.T) { // P6.1
	p := steps("spec", "containers", key("name", "web"), "ports", 0)
	for n := range len(p) + 1 {
		checkPrefix(t, p, p[:n], true)
		checkPrefix(t, p[:n], p, n == len(p))
		checkPrefix(t, p, append(slices.Clone(p[:n]), name("other")), false)
	}
	checkPrefix(t, nil, nil, true)
	checkPrefix(t, nil, []api.Step{}, true)
	checkPrefix(t, []api.Step{}, nil, true)
	checkPrefix(t, nil, p, false)
	checkPrefix(t, steps("ab"), steps("a"), false)
	checkPrefix(t, steps("b", "a"), steps("a"), false)
	checkPrefix(t, steps("a", "b", "c"), steps("a", "c"), false)
	// Each member of a step counts.
	s := api.Step{Kind: 3, Name: "n", Index: 4, Value: "v"}
	for _, other := range []api.Step{{Kind: 2, Name: "n", Index: 4, Value: "v"}, {Kind: 3, Name: "m", Index: 4, Value: "v"}, {Kind: 3, Name: "n", Index: 5, Value: "v"}, {Kind: 3, Name: "n", Index: 4, Value: "w"}} {
		checkPrefix(t, steps(s), steps(other), false)
		checkPrefix(t, steps(s, 1), steps(other), false)
		checkPrefix(t, steps(0, s), steps(0, other), false)
		checkPrefix(t, steps(0, other, s), steps(0, other), true)
	}
}

func TestHasPrefixOfAnyPaths(t *testing.T) { // P6.1
	for _, s := range oddSteps() {
		checkPrefix(t, steps(s, s), steps(s), true)
		checkPrefix(t, steps(s), steps(s, s), false)
		checkPrefix(t, steps("a", s), steps("a"), true)
		checkPrefix(t, steps("a"), steps(s), false)
	}
	checkPrefix(t, names(1000), names(999), true)
	checkPrefix(t, names(1000), names(1000), true)
	checkPrefix(t, names(999), names(1000), false)
	checkPrefix(t, names(1000), append(names(998), name("b")), false)
	r := rand.New(rand.NewSource(62))
	counts := map[bool]int{}
	for range 20000 {
		p, q := steps(), steps()
		for range r.Intn(4) {
			p = append(p, randomStep(r))
		}
		if r.Intn(4) > 0 {
			q = slices.Clone(p[:r.Intn(len(p)+1)])
		}
		if r.Intn(3) == 0 {
			q = append(q, randomStep(r))
		}
		counts[begins(p, q)]++
		checkPrefix(t, p, q, begins(p, q))
	}
	if counts[true] < 2000 || counts[false] < 2000 {
		t.Errorf("the answers are %v", counts)
	}
}
