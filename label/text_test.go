package label

import (
	"math/rand"
	"regexp"
	"slices"
	"strings"
	"testing"

	"orchestrator/api"
)

// The grammar of selector texts as regular expressions. Those of requirements and selectors are held against a text in which one blank follows each token, so that a word cannot be split.
var (
	tokenForm       = regexp.MustCompile(`[a-z0-9./-]+|!=|[(),!=]`)
	otherForm       = regexp.MustCompile(`[^a-z0-9./() ,!=-]`)
	requirementForm = `(?:(! )([a-z0-9./-]+ )|([a-z0-9./-]+ )(?:(!?= )((?:[a-z0-9./-]+ )?)|(in|notin) \( ((?:[a-z0-9./-]+ )?(?:, (?:[a-z0-9./-]+ )?)*)\) )?)`
	oneRequirement  = regexp.MustCompile(requirementForm + `(?:, |\z)`)
	selectorForm    = regexp.MustCompile(`\A(?:` + requirementForm + `(?:, ` + requirementForm + `)*)?\z`)
)

// expectParse works out what Parse must answer by the regular expressions.
func expectParse(text string) ([]api.Requirement, api.Errno) {
	if len(text) > 20000 {
		return nil, api.ErrTooLong
	}
	spaced := ""
	if tokens := tokenForm.FindAllString(text, -1); len(tokens) > 0 {
		spaced = strings.Join(tokens, " ") + " "
	}
	if otherForm.MatchString(text) || !selectorForm.MatchString(spaced) {
		return nil, api.ErrSyntax
	}
	s := []api.Requirement{}
	for _, parts := range oneRequirement.FindAllStringSubmatch(spaced, -1) {
		s = append(s, expectRequirement(parts))
		last := s[len(s)-1]
		if !keyForm.MatchString(last.Key) || slices.ContainsFunc(last.Values, func(v string) bool { return !valueForm.MatchString(v) }) {
			return nil, api.ErrInvalid
		}
		if len(last.Values) > 64 {
			return nil, api.ErrTooLong
		}
	}
	if len(s) > 16 {
		return nil, api.ErrTooLong
	}
	return s, api.OK
}

func expectRequirement(parts []string) api.Requirement {
	if parts[1] != "" {
		return notExists(strings.TrimSpace(parts[2]))
	}
	key := strings.TrimSpace(parts[3])
	switch strings.TrimSpace(parts[4]) + parts[6] {
	case "=":
		return in(key, strings.TrimSpace(parts[5]))
	case "!=":
		return notIn(key, strings.TrimSpace(parts[5]))
	case "in":
		return in(key, expectValues(parts[7])...)
	case "notin":
		return notIn(key, expectValues(parts[7])...)
	}
	return exists(key)
}

func expectValues(list string) []string {
	values := []string{}
	for _, value := range strings.Split(list, ",") {
		if value = strings.TrimSpace(value); !slices.Contains(values, value) {
			values = append(values, value)
		}
	}
	slices.Sort(values)
	return values
}

func checkParse(t *testing.T, text string, want []api.Requirement, code api.Errno) {
	t.Helper()
	if s, e := Parse(text); !equalSelectors(s, want) || e != code {
		t.Errorf("Parse(%.200q) = %+v, %d; want %+v, %d", text, s, e, want, code)
	}
}

func checkPrint(t *testing.T, s []api.Requirement, want string, code api.Errno) {
	t.Helper()
	if text, e := Print(s); text != want || e != code {
		t.Errorf("Print(%+v) = %q, %d; want %q, %d", s, text, e, want, code)
	}
}

func checkAgrees(t *testing.T, text string) api.Errno {
	t.Helper()
	want, code := expectParse(text)
	checkParse(t, text, want, code)
	return code
}

func TestTextExamples(t *testing.T) { // P3.2
	s := selector(in("env", "a", "b"), notExists("x"))
	checkParse(t, "env in (b,a), !x", s, api.OK)
	checkPrint(t, s, "env in (a,b), !x", api.OK)
	s = selector(in("a", ""), notIn("b", "1"), exists("c"))
	checkParse(t, "a=, b!=1,c", s, api.OK)
	checkPrint(t, s, "a in (), b notin (1), c", api.OK)
	checkParse(t, "a in", nil, api.ErrSyntax)
	checkParse(t, "a,", nil, api.ErrSyntax)
	checkParse(t, "1a", nil, api.ErrInvalid)
}

func TestParseAccepts(t *testing.T) { // P3.2
	for text, want := range map[string][]api.Requirement{
		"":                     nil,
		"   ":                  nil,
		"a":                    selector(exists("a")),
		"!a":                   selector(notExists("a")),
		"a=b":                  selector(in("a", "b")),
		"a!=b":                 selector(notIn("a", "b")),
		"a=":                   selector(in("a", "")),
		"a!=":                  selector(notIn("a", "")),
		"a in ()":              selector(in("a", "")),
		"a in (,)":             selector(in("a", "")),
		"a in (,b)":            selector(in("a", "", "b")),
		"a in (b,)":            selector(in("a", "", "b")),
		"a in (b,,c)":          selector(in("a", "", "b", "c")),
		"a notin ()":           selector(notIn("a", "")),
		"a notin (c,b,c,b)":    selector(notIn("a", "b", "c")),
		"a in (b,b)":           selector(in("a", "b")),
		"a in (10,9,-,.,a)":    selector(in("a", "-", ".", "10", "9", "a")),
		"b,a":                  selector(exists("b"), exists("a")),
		"a,a,!a":               selector(exists("a"), exists("a"), notExists("a")),
		"a=,b":                 selector(in("a", ""), exists("b")),
		"a!=,!b":               selector(notIn("a", ""), notExists("b")),
		"x.y/z-0 in (0-.)":     selector(in("x.y/z-0", "0-.")),
		"a in (b), c notin(d)": selector(in("a", "b"), notIn("c", "d")),
		"a in(b),c notin(d)":   selector(in("a", "b"), notIn("c", "d")),
		"a=1.-":                selector(in("a", "1.-")),
		"inn":                  selector(exists("inn")),
		"a.in":                 selector(exists("a.in")),
	} {
		checkParse(t, text, want, api.OK)
		checkAgrees(t, text)
	}
}

func TestParseInAndNotInAsWords(t *testing.T) { // P3.2
	for text, want := range map[string][]api.Requirement{
		"in":                          selector(exists("in")),
		"notin":                       selector(exists("notin")),
		"!in":                         selector(notExists("in")),
		"! notin":                     selector(notExists("notin")),
		"in in (in)":                  selector(in("in", "in")),
		"in notin (notin,in)":         selector(notIn("in", "in", "notin")),
		"notin in (notin)":            selector(in("notin", "notin")),
		"notin notin (in)":            selector(notIn("notin", "in")),
		"in=in":                       selector(in("in", "in")),
		"in!=notin":                   selector(notIn("in", "notin")),
		"a=in,b=notin":                selector(in("a", "in"), in("b", "notin")),
		"in,notin,a in (in), in = in": selector(exists("in"), exists("notin"), in("a", "in"), in("in", "in")),
	} {
		checkParse(t, text, want, api.OK)
		checkAgrees(t, text)
	}
	for _, text := range []string{"in in", "in notin", "notin in", "in (a)", "notin (a)", "in in in (a)", "a in in (b)", "a=in (b)", "a = in in (b)", "a!=notin (b)", "!a in (b)", "!in in (b)", "! in (b)", "ain (b)", "a inb", "a in.(b)", "a inin (b)", "a IN (b)", "a not in (b)", "a isin (b)"} {
		checkParse(t, text, nil, api.ErrSyntax)
		checkAgrees(t, text)
	}
}

func TestParseRefuses(t *testing.T) { // P3.2
	for _, text := range []string{
		",", ",a", "a,", "a,,b", "a, ,b", "!", "!!a", "! !a", "a!", "a!b", "a!,b", "=", "=a", "!=", "!=a", "! =a", "a==b", "a= =b", "a=!b", "a=b=c", "a=b!=c",
		"a! =b", "a! =", "a!!=b", "a !! = b", "!a=b", "!a!=b", "a b", "a=b c", "a=b,c d", "a!=b c", "(", ")", "()", "a()", "a(b)", "(a)", "a in", "a notin", "a in b", "a in (",
		"a in (b", "a in (b,", "a in (b,c", "a in b)", "a in )", "a in ((b))", "a in (b c)", "a in (b))", "a in (b)c", "a in (b) c", "a in (!b)", "a in (b=c)", "a in (!=)", "a in (b) in (c)",
		"a in = b", "a in ! (b)", "a = (b)", "a != (b)", "A", "aB", "a=B", "a_b", "a\tb", "a,\tb", "\ta", "a\n", "a\r", "a in\t(b)", "a\x00", "a=\x80", "é", "a=é", "a&b", "a in [b]", "a;b", "a in (b;c)", "a>1", "\"a\"", "a\u00a0", "*",
	} {
		checkParse(t, text, nil, api.ErrSyntax)
		checkAgrees(t, text)
	}
}

func TestParseBlanks(t *testing.T) { // P3.2
	pieces := []string{"a", "=", "b", ",", "c", "!=", "d", ",", "!", "e", ",", "f ", "in", "(", "h", ",", "", ",", "g", ")", ",", "i ", "notin", "(", ")", ",", "j", "=", ",", "k"}
	want := selector(in("a", "b"), notIn("c", "d"), notExists("e"), in("f", "", "g", "h"), notIn("i", ""), in("j", ""), exists("k"))
	for _, blanks := range []string{"", " ", "  ", "       "} {
		text := blanks + strings.Join(pieces, blanks) + blanks
		checkParse(t, text, want, api.OK)
	}
	for place := range len(pieces) + 1 {
		text := strings.Join(pieces[:place], "") + "  " + strings.Join(pieces[place:], "")
		checkParse(t, text, want, api.OK)
		for _, other := range []string{"\t", "\n", "\v", "\f", "\r", "\x00", "\u00a0", "\u2003"} {
			text := strings.Join(pieces[:place], "") + other + strings.Join(pieces[place:], "")
			checkParse(t, text, nil, api.ErrSyntax)
		}
	}
}

func TestParseNotEqualIsOneToken(t *testing.T) { // P3.2
	checkParse(t, "a!=b", selector(notIn("a", "b")), api.OK)
	checkParse(t, "a != b", selector(notIn("a", "b")), api.OK)
	checkParse(t, "a!= b", selector(notIn("a", "b")), api.OK)
	checkParse(t, "a! =b", nil, api.ErrSyntax)
	checkParse(t, "!=a", nil, api.ErrSyntax)
	checkParse(t, "a!==b", nil, api.ErrSyntax)
	checkParse(t, "a=!=b", nil, api.ErrSyntax)
}

func TestParseWordLimits(t *testing.T) { // P3.2
	for _, word := range edgeWords() {
		checkAgrees(t, word)
		checkAgrees(t, "!"+word)
		checkAgrees(t, word+"=v")
		checkAgrees(t, "k="+word)
		checkAgrees(t, "k!="+word)
		checkAgrees(t, "k in (v,"+word+")")
		checkAgrees(t, word+" notin (v)")
	}
	name := strings.Repeat("n", api.MaxName)
	checkParse(t, name, selector(exists(name)), api.OK)
	checkParse(t, name+"="+name, selector(in(name, name)), api.OK)
	for _, text := range []string{name + "n", "!" + name + "n", name + "n=", "a=" + name + "n", "a!=" + name + "n", "a in (b," + name + "n)", "a=b/c", "a!=/", "a in (b/c)", "a notin (b,/,c)", "1a", "!1", "-=a", "./ in (a)", "/a", "9,a", "a,9"} {
		checkParse(t, text, nil, api.ErrInvalid)
	}
}

func TestParseTextLimits(t *testing.T) { // P3.2
	full := strings.Repeat(" ", api.MaxText)
	checkParse(t, full, nil, api.OK)
	checkParse(t, full+" ", nil, api.ErrTooLong)
	checkParse(t, full[1:]+"a", selector(exists("a")), api.OK)
	checkParse(t, "a"+full, nil, api.ErrTooLong)
	checkParse(t, full[1:]+"A", nil, api.ErrSyntax)
	checkParse(t, full+"A", nil, api.ErrTooLong)
	checkParse(t, full[3:]+"a,9", nil, api.ErrInvalid)
	checkParse(t, full+"a,9", nil, api.ErrTooLong)
	checkParse(t, strings.Repeat("a", api.MaxText), nil, api.ErrInvalid)
	checkParse(t, strings.Repeat("a", api.MaxText+1), nil, api.ErrTooLong)
	checkParse(t, "a in ("+strings.Repeat("b,", (api.MaxText-7)/2)+")", selector(in("a", "", "b")), api.OK)
}

func TestParseCounts(t *testing.T) { // P3.2
	list := func(n int) string { return " in (" + strings.Join(numbers(n, 3), ",") + ")" }
	most := numbers(api.MaxList, 3)
	checkParse(t, "a"+list(api.MaxList), selector(in("a", most...)), api.OK)
	checkParse(t, "a"+list(api.MaxList+1), nil, api.ErrTooLong)
	checkParse(t, "a not"+list(api.MaxList)[1:], selector(notIn("a", most...)), api.OK)
	checkParse(t, "a not"+list(api.MaxList + 1)[1:], nil, api.ErrTooLong)
	// Only distinct values count, and the empty one is one of them.
	checkParse(t, "a in ("+strings.Repeat(strings.Join(most, ",")+",", 5)+"000)", selector(in("a", most...)), api.OK)
	checkParse(t, "a in ("+strings.Join(most, ",")+",)", nil, api.ErrTooLong)
	checkParse(t, "a in ("+strings.Join(most[1:], ",")+",)", selector(in("a", append([]string{""}, most[1:]...)...)), api.OK)
	names := keys(api.MaxLabels + 1)
	checkParse(t, strings.Join(names[:api.MaxLabels], ","), selectorOf(api.MaxLabels), api.OK)
	checkParse(t, strings.Join(names, ","), nil, api.ErrTooLong)
	checkParse(t, strings.Repeat("a,", api.MaxLabels-1)+"a", slices.Repeat(selector(exists("a")), api.MaxLabels), api.OK)
	checkParse(t, strings.Repeat("a,", api.MaxLabels)+"a", nil, api.ErrTooLong)
}

func TestParseOrderOfErrors(t *testing.T) { // P3.2
	many := " in (" + strings.Join(numbers(api.MaxList+1, 3), ",") + ")"
	manyAndWrong := " in (" + strings.Join(numbers(api.MaxList+1, 3), ",") + ",x/y)"
	keys17 := strings.Join(keys(api.MaxLabels+1), ",")
	for _, c := range []struct {
		text string
		want api.Errno
	}{
		{"1a,b c", api.ErrSyntax},
		{"a=b/c,", api.ErrSyntax},
		{"a" + many + ",!", api.ErrSyntax},
		{keys17 + ",", api.ErrSyntax},
		{"1a" + many, api.ErrInvalid},
		{"a" + manyAndWrong, api.ErrInvalid},
		{"a" + many + ",1a", api.ErrTooLong},
		{"a" + many + ",b=c/d", api.ErrTooLong},
		{"1a,a" + many, api.ErrInvalid},
		{"a=b/c,a" + many, api.ErrInvalid},
		{"a,b=c,a" + many, api.ErrTooLong},
		{keys17 + ",1a", api.ErrInvalid},
		{keys17 + ",a=b/c", api.ErrInvalid},
		{keys17 + ",a" + many + ",1a", api.ErrTooLong},
		{keys17 + ",a" + manyAndWrong, api.ErrInvalid},
		{keys17, api.ErrTooLong},
		{strings.Repeat("A", api.MaxText+1), api.ErrTooLong},
		{strings.Repeat("A", api.MaxText), api.ErrSyntax},
	} {
		checkParse(t, c.text, nil, c.want)
		checkAgrees(t, c.text)
	}
}

func TestParseOfAllShortTexts(t *testing.T) { // P3.2
	counts := make([]int, api.ErrUnavailable+1)
	checkExtensions(t, "", 5, counts)
	for _, e := range []api.Errno{api.OK, api.ErrSyntax, api.ErrInvalid} {
		if counts[e] < 100 {
			t.Errorf("only %d texts with the result %d", counts[e], e)
		}
	}
}

// checkExtensions checks text and all texts that go on by up to more pieces.
func checkExtensions(t *testing.T, text string, more int, counts []int) {
	counts[checkAgrees(t, text)]++
	if more == 0 {
		return
	}
	for _, piece := range []string{"a", "1", "in", "notin", "(", ")", ",", "!", "=", " "} {
		checkExtensions(t, text+piece, more-1, counts)
	}
}

func randomBlanks(r *rand.Rand) string { return strings.Repeat(" ", max(0, r.Intn(5)-2)) }

// randomText writes a selector by the grammar, with blanks here and there and words of which few are not valid.
func randomText(r *rand.Rand) string {
	words := []string{"a", "b", "c", "env", "tier", "in", "notin", "x.y-z", "", "", "1", "a/b"}
	word := func() string { return randomBlanks(r) + words[r.Intn(len(words)-r.Intn(4))] + randomBlanks(r) }
	parts := []string{}
	for range r.Intn(5) {
		key := randomBlanks(r) + words[r.Intn(8)]
		list := []string{}
		for range 1 + r.Intn(5) {
			list = append(list, word())
		}
		forms := []string{key, "!" + key, key + randomBlanks(r) + "=" + word(), key + "!=" + word(), key + " in" + randomBlanks(r) + "(" + strings.Join(list, ",") + ")", key + "  notin(" + strings.Join(list, ",") + ")"}
		parts = append(parts, forms[r.Intn(len(forms))]+randomBlanks(r))
	}
	return strings.Join(parts, ",")
}

// spoil changes text at one place.
func spoil(r *rand.Rand, text string) string {
	pieces := []string{"", "", "a", "Z", "/", "(", ")", ",", "!", "=", " ", "in", "\xff", "\t"}
	from := r.Intn(len(text) + 1)
	to := min(len(text), from+r.Intn(2))
	return text[:from] + pieces[r.Intn(len(pieces))] + text[to:]
}

func TestParseAgreesWithGrammar(t *testing.T) { // P3.2
	r := rand.New(rand.NewSource(32))
	counts := make([]int, api.ErrUnavailable+1)
	for range 20000 {
		text := randomText(r)
		counts[checkAgrees(t, text)]++
		counts[checkAgrees(t, spoil(r, text))]++
	}
	for _, e := range []api.Errno{api.OK, api.ErrSyntax, api.ErrInvalid} {
		if counts[e] < 1000 {
			t.Errorf("only %d texts with the result %d", counts[e], e)
		}
	}
}

func TestPrint(t *testing.T) { // P3.2
	checkPrint(t, nil, "", api.OK)
	checkPrint(t, selector(), "", api.OK)
	checkPrint(t, selector(exists("a")), "a", api.OK)
	checkPrint(t, selector(notExists("a")), "!a", api.OK)
	checkPrint(t, selector(in("a", "b")), "a in (b)", api.OK)
	checkPrint(t, selector(notIn("a", "b")), "a notin (b)", api.OK)
	checkPrint(t, selector(in("a", "b", "c", "d")), "a in (b,c,d)", api.OK)
	checkPrint(t, selector(notIn("a", "", "b")), "a notin (,b)", api.OK)
	checkPrint(t, selector(in("a", "")), "a in ()", api.OK)
	checkPrint(t, selector(notExists("b"), exists("a"), exists("a")), "!b, a, a", api.OK)
	checkPrint(t, selector(in("in", "in"), notIn("notin", "notin"), exists("in")), "in in (in), notin notin (notin), in", api.OK)
}

func TestPrintRefuses(t *testing.T) { // P3.2
	for _, s := range [][]api.Requirement{
		selector(in("a")),
		selector(in("a", "c", "b")),
		selector(in("a", "b", "b")),
		selector(in("a", "b/c")),
		selector(notIn("A", "b")),
		selector(exists("")),
		selector(exists("1")),
		selector(exists("a"), notExists("")),
		selector(api.Requirement{Key: "a"}),
		selector(api.Requirement{Key: "a", Op: 5}),
		selector(api.Requirement{Key: "a", Op: api.OpExists, Values: []string{"b"}}),
		selector(in("a", numbers(api.MaxList+1, 3)...)),
		selectorOf(api.MaxLabels + 1),
	} {
		checkPrint(t, s, "", api.ErrInvalid)
	}
}

// selectorOfText makes a valid selector whose text has MaxText - 25 + n bytes, for n from 1 to MaxName.
func selectorOfText(n int) []api.Requirement {
	s := []api.Requirement{}
	for range 7 {
		// 2669 bytes, with ", " after it 2671.
		s = append(s, in(strings.Repeat("k", 40), numbers(64, 40)...))
	}
	// 1303 bytes for n = 25: "a in (" and ")", 31 values with a comma, and the last value.
	return append(s, in("a", append(numbers(31, 40), strings.Repeat("9", n))...))
}

func TestPrintTextLimits(t *testing.T) { // P3.2, P3.3
	text, e := Print(selectorOfText(25))
	if len(text) != api.MaxText || e != api.OK {
		t.Fatalf("Print answers %d bytes, %d", len(text), e)
	}
	checkParse(t, text, selectorOfText(25), api.OK)
	checkPrint(t, selectorOfText(26), "", api.ErrTooLong)
	// A selector that is not valid is that first, however long its text would be.
	wrong := selectorOfText(26)
	wrong[7].Key = "A"
	checkPrint(t, wrong, "", api.ErrInvalid)
	greatest := slices.Repeat(selectorOfText(1)[:1], api.MaxLabels)
	checkPrint(t, greatest, "", api.ErrTooLong)
}

func randomValidSelector(r *rand.Rand) []api.Requirement {
	words := []string{"", "-", "0", "1.2", "a", "b", "in", "notin", "x-y"}
	s := []api.Requirement{}
	for range r.Intn(api.MaxLabels + 1) {
		one := api.Requirement{Key: words[4+r.Intn(5)], Op: 1 + r.Intn(4)}
		if one.Op == api.OpIn || one.Op == api.OpNotIn {
			for _, i := range r.Perm(len(words))[:1+r.Intn(len(words))] {
				one.Values = append(one.Values, words[i])
			}
			slices.Sort(one.Values)
		}
		s = append(s, one)
	}
	return s
}

func TestRoundTrip(t *testing.T) { // P3.3
	r := rand.New(rand.NewSource(33))
	for range 5000 {
		s := randomValidSelector(r)
		text, e := Print(s)
		if e != api.OK {
			t.Fatalf("Print(%+v) = %d", s, e)
		}
		checkParse(t, text, s, api.OK)
	}
	for _, s := range [][]api.Requirement{nil, selector(in("a", "")), selector(notIn("in", "", "in")), selectorOf(api.MaxLabels), selector(in("a", numbers(api.MaxList, 40)...))} {
		text, e := Print(s)
		if e != api.OK {
			t.Errorf("Print(%+v) = %d", s, e)
		}
		checkParse(t, text, s, api.OK)
	}
}

func TestParsedSelectorsShareNothing(t *testing.T) { // P2
	const text = "a in (c,b,b), d=e, f!=g, h notin (j,i,i,i)"
	s, _ := Parse(text)
	for i := range s {
		for j := range s {
			if i != j {
				before := slices.Clone(s[j].Values)
				_ = append(s[i].Values, "spoiled", "spoiled")
				if !slices.Equal(s[j].Values, before) {
					t.Errorf("the values of the requirements %d and %d share memory", i, j)
				}
			}
		}
	}
	s[0].Values[0] = "spoiled"
	checkParse(t, text, selector(in("a", "b", "c"), in("d", "e"), notIn("f", "g"), notIn("h", "i", "j")), api.OK)
}

func FuzzParse(f *testing.F) { // P3.2, P3.3
	for _, text := range []string{"", "env in (b,a), !x", "a=, b!=1,c", "a notin (,c)", "in in (in)", "1a", "a! =b"} {
		f.Add(text)
	}
	f.Fuzz(func(t *testing.T, text string) {
		if checkAgrees(t, text) != api.OK {
			return
		}
		s, _ := Parse(text)
		if again, e := Print(s); e == api.OK {
			checkParse(t, again, s, api.OK)
		}
	})
}
