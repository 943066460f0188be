package path

import (
	"math/rand"
	"regexp"
	"slices"
	"strconv"
	"strings"
	"testing"

	"orchestrator/api"
)

// The grammar of path texts as regular expressions.
const (
	nameText    = `[a-zA-Z0-9_/-]+`
	bracketText = `\[(?:(0|[1-9][0-9]*)|(` + nameText + `)="((?:[ !\x23-\x5b\x5d-\x7e]|\\["\\n])*)")\]`
)

var (
	pathForm = regexp.MustCompile(`\A(?:(?:` + nameText + `|` + bracketText + `)(?:\.` + nameText + `|` + bracketText + `)*)?\z`)
	stepForm = regexp.MustCompile(`\.?(` + nameText + `)|` + bracketText)
)

// expectParse works out what Parse must answer by the regular expressions.
func expectParse(text string) ([]api.Step, api.Errno) {
	if len(text) > 20000 {
		return nil, api.ErrTooLong
	}
	if !pathForm.MatchString(text) {
		return nil, api.ErrSyntax
	}
	p := []api.Step{}
	for _, parts := range stepForm.FindAllStringSubmatch(text, -1) {
		switch {
		case parts[1] != "":
			p = append(p, name(parts[1]))
		case parts[2] != "":
			n, err := strconv.Atoi(parts[2])
			if err != nil {
				return nil, api.ErrInvalid
			}
			p = append(p, index(n))
		default:
			p = append(p, key(parts[3], strings.NewReplacer(`\"`, `"`, `\\`, `\`, `\n`, "\n").Replace(parts[4])))
		}
	}
	if !expectValid(p) {
		return nil, api.ErrInvalid
	}
	return p, api.OK
}

func checkParse(t *testing.T, s string, want []api.Step) {
	t.Helper()
	if p, e := Parse(s); !slices.Equal(p, want) || e != api.OK {
		t.Errorf("Parse(%.300q) = %+v, %d; want %+v, 0", s, p, e, want)
	}
}

// checkError checks that a text is refused with the error, and with no path.
func checkError(t *testing.T, s string, code api.Errno) {
	t.Helper()
	if p, e := Parse(s); len(p) > 0 || e != code {
		t.Errorf("Parse(%.300q) = %+v, %d; want no path, %d", s, p, e, code)
	}
}

// checkAgrees checks that Parse answers what the regular expressions say, and returns the error.
func checkAgrees(t *testing.T, s string) api.Errno {
	t.Helper()
	p, code := expectParse(s)
	if code == api.OK {
		checkParse(t, s, p)
	} else {
		checkError(t, s, code)
	}
	return code
}

func checkPrint(t *testing.T, p []api.Step, want string, code api.Errno) {
	t.Helper()
	if s, e := Print(p); s != want || e != code {
		t.Errorf("Print(%+v) = %q, %d; want %q, %d", p, s, e, want, code)
	}
}

// checkText checks that a path has the text, and the text the path.
func checkText(t *testing.T, s string, p []api.Step) {
	t.Helper()
	checkParse(t, s, p)
	checkPrint(t, p, s, api.OK)
}

func TestTextExamples(t *testing.T) { // P6.1, P6.3
	checkText(t, "a.b[0]", steps("a", "b", 0))
	checkText(t, `spec.containers[name="web"].ports[0]`, steps("spec", "containers", key("name", "web"), "ports", 0))
	checkError(t, "a..b", api.ErrSyntax)
	checkError(t, ".a", api.ErrSyntax)
	checkError(t, "a[01]", api.ErrSyntax)
	checkError(t, "a[65]", api.ErrInvalid)
}

func TestTexts(t *testing.T) { // P6.1, P6.3
	checkText(t, "", nil)
	checkText(t, "", []api.Step{})
	checkText(t, "a", steps("a"))
	checkText(t, "0", steps("0"))
	checkText(t, "01.-.00", steps("01", "-", "00"))
	checkText(t, "-_/aZ9.b", steps("-_/aZ9", "b"))
	checkText(t, "[0]", steps(0))
	checkText(t, "[0].x", steps(0, "x"))
	checkText(t, "[0][10][64]", steps(0, 10, 64))
	checkText(t, "a.n.n[9].n", steps("a", "n", "n", 9, "n"))
	checkText(t, `[k=""]`, steps(key("k", "")))
	checkText(t, `[k="x"]`, steps(key("k", "x")))
	checkText(t, `[k="x"][k="y"].z`, steps(key("k", "x"), key("k", "y"), "z"))
	checkText(t, `a[-/_="]"].b`, steps("a", key("-/_", "]"), "b"))
	checkText(t, `a[k="[0].b=,'"]`, steps("a", key("k", "[0].b=,'")))
	for n := range 65 {
		checkText(t, "a["+strconv.Itoa(n)+"]", steps("a", n))
		checkText(t, "["+strconv.Itoa(n)+"].a", steps(n, "a"))
	}
}

func TestTextsOfDigits(t *testing.T) { // P6.1, P6.3
	// Digits alone are an index, and the name of a key if an equals sign follows, leading zeros or not.
	checkText(t, `[0="x"]`, steps(key("0", "x")))
	checkText(t, `[1="1"]`, steps(key("1", "1")))
	checkText(t, `[01="x"]`, steps(key("01", "x")))
	checkText(t, `[99="x"][9]`, steps(key("99", "x"), 9))
	checkText(t, `a[`+strings.Repeat("7", 40)+`="x"]`, steps("a", key(strings.Repeat("7", 40), "x")))
	checkError(t, `a[`+strings.Repeat("7", 41)+`="x"]`, api.ErrInvalid)
	for _, s := range []string{"[00]", "[01]", "[000]", "[064]", "[-0]", "[-1]", "[+1]", "[1a]", "[a1]", "[1 ]", "[ 1]", "[1.0]", "[1_0]", "[0x1]", "[1/2]", "[a]", "[0=]", "[0=1]", "[٠]", "[0" + strings.Repeat("9", 50) + "]", "[" + strings.Repeat("0", 19000) + "]"} {
		checkError(t, s, api.ErrSyntax)
		checkError(t, "a"+s, api.ErrSyntax)
		checkError(t, s+".a", api.ErrSyntax)
	}
	// Some of these wrap round to small numbers.
	for _, n := range []string{"65", "66", "70", "99", "100", "640", "650", "1000", "256", "4294967296", "4294967297", "9223372036854775807", "9223372036854775808", "18446744073709551616", "18446744073709551617", "18446744073709551680", "340282366920938463463374607431768211457", "1" + strings.Repeat("0", 300), strings.Repeat("9", 19000), "1" + strings.Repeat("0", 19996)} {
		checkError(t, "["+n+"]", api.ErrInvalid)
		checkError(t, "["+n+"]x", api.ErrSyntax)
	}
}

func TestTextsOfKeys(t *testing.T) { // P6.1, P6.3
	checkText(t, `[k="\""]`, steps(key("k", `"`)))
	checkText(t, `[k="\\"]`, steps(key("k", `\`)))
	checkText(t, `[k="\n"]`, steps(key("k", "\n")))
	checkText(t, `[k="\\n"]`, steps(key("k", `\n`)))
	checkText(t, `[k="\\\n"]`, steps(key("k", "\\\n")))
	checkText(t, `[k="\\\""]`, steps(key("k", `\"`)))
	checkText(t, `[k="\"]"]`, steps(key("k", `"]`)))
	checkText(t, `[k="a\"b\\c\nd"].e`, steps(key("k", "a\"b\\c\nd"), "e"))
	for c := range 256 {
		one := string([]byte{byte(c)})
		switch {
		case one == `"` || one == `\`:
			checkText(t, `a[k="x\`+one+`y"]`, steps("a", key("k", "x"+one+"y")))
			checkError(t, `a[k="x`+one+`y"]`, api.ErrSyntax)
		case c >= 32 && c <= 126:
			checkText(t, `a[k="x`+one+`y"]`, steps("a", key("k", "x"+one+"y")))
		default:
			checkError(t, `a[k="x`+one+`y"]`, api.ErrSyntax)
		}
		if !strings.Contains(`"\n`, one) {
			checkError(t, `a[k="\`+one+`"]`, api.ErrSyntax)
			checkError(t, `a[k="x\`+one+`y"].b`, api.ErrSyntax)
		}
	}
}

func TestParseRefuses(t *testing.T) { // P6.1
	for _, s := range []string{
		".", "..", ".a", "a.", "a..b", "a.b.", ".a.b", "..a", "a...b", "[0].", "[0]..a", ".[0]", "a.[0]", `a.[k="x"]`, `[k="x"].`, "a[0].[0]",
		"[", "]", "[]", "a[]", "a[].b", "[[0]]", "[0]]", "[[0]", "a]", "a[", "a[0", "[0", "[0.a", "[0[0]", "a[0]b", "[0]a", `[k="x"]a`, "a[0]0",
		"[k]", "[k=]", "[k=x]", `[k="x]`, `[k=x"]`, `[k="x"`, `[k="x`, `[k="`, `[k=`, `[k`, `[=`, `[="x"]`, `[k=="x"]`, `[k:"x"]`, `[k='x']`, `[k="x""y"]`, `[k="x"y]`, `[k="x"0]`, `[k.l="x"]`, `[k "x"]`, `[k"x"]`, `["x"]`, `[k="x"=]`, `[k="\`, `[k="\"]`, `[k="x\"]`, `[k="\\\"]`,
		" ", " a", "a ", "a b", "a .b", "a. b", "a [0]", "[ 0]", "[0 ]", `[ k="x"]`, `[k ="x"]`, `[k= "x"]`, `[k="x" ]`, "a\n", "\na", "[0] ", "\t",
		"a,b", "a=b", `a="b"`, `"a"`, "a:b", "$", "a*", "é", "a.é", "\xff", "a\x00", "a\\", "a\\n", "[é=\"x\"]", "[k=\"é\"]", "[k=\"\xff\"]", "\ufffd",
	} {
		checkError(t, s, api.ErrSyntax)
		checkAgrees(t, s)
	}
}

func TestTextLimits(t *testing.T) { // P6.1, P6.3
	for n := 1; n <= 60; n++ {
		for _, s := range []string{letters(n), "x." + letters(n) + ".y", "[" + letters(n) + `="x"]`} {
			if code := checkAgrees(t, s); (code == api.OK) != (n <= 40) || n > 40 && code != api.ErrInvalid {
				t.Errorf("a name of %d bytes in %q gives %d", n, s, code)
			}
		}
	}
	for _, one := range []string{"a", `\n`, `\\`, `\"`, " ", "]"} {
		plain := strings.NewReplacer(`\n`, "\n", `\\`, `\`, `\"`, `"`).Replace(one)
		for n := 190; n <= 200; n++ {
			checkText(t, `[k="`+strings.Repeat(one, n)+`"]`, steps(key("k", strings.Repeat(plain, n))))
		}
		for _, n := range []int{201, 202, 400, 401, 1000} {
			checkError(t, `[k="`+strings.Repeat(one, n)+`"]`, api.ErrInvalid)
		}
	}
	for n := 1; n <= 40; n++ {
		if n <= 16 {
			checkText(t, "a"+strings.Repeat(".a", n-1), names(n))
			checkText(t, strings.Repeat("[7]", n), slices.Repeat(steps(7), n))
			checkText(t, strings.Repeat(`[k="x"]`, n), slices.Repeat(steps(key("k", "x")), n))
		} else {
			checkError(t, "a"+strings.Repeat(".a", n-1), api.ErrInvalid)
			checkError(t, strings.Repeat("[7]", n), api.ErrInvalid)
			checkError(t, strings.Repeat(`[k="x"]`, n), api.ErrInvalid)
		}
	}
}

func TestTextOfTheLongestPath(t *testing.T) { // P6.1, P6.3
	for _, one := range []string{"\n", `"`, `\`} {
		p := slices.Repeat(steps(key(letters(40), strings.Repeat(one, 200))), 16)
		s, e := Print(p)
		if e != api.OK || len(s) != 16*(40+400+5) {
			t.Fatalf("the longest path has a text of %d bytes, %d", len(s), e)
		}
		checkText(t, s, p)
	}
}

func TestParseOrderOfErrors(t *testing.T) { // P6.1
	// What is wrong with a path counts only if the whole text follows the grammar, wherever that fails.
	for _, long := range []string{letters(41), "[65]", `[k="` + letters(201) + `"]`, "[" + letters(41) + `="x"]`, "a" + strings.Repeat(".a", 16), "[" + strings.Repeat("9", 30) + "]"} {
		checkError(t, long, api.ErrInvalid)
		for _, rest := range []string{".", "..a", "[", "[01]", " ", `[k="`, "]", "\xff"} {
			checkError(t, long+rest, api.ErrSyntax)
		}
		checkError(t, "."+long, api.ErrSyntax)
		checkError(t, " "+long, api.ErrSyntax)
	}
	// A text that is too long is not looked at.
	for n := 19998; n <= 20003; n++ {
		invalid, syntax := api.ErrInvalid, api.ErrSyntax
		if n > 20000 {
			invalid, syntax = api.ErrTooLong, api.ErrTooLong
		}
		checkError(t, letters(n), invalid)
		checkError(t, strings.Repeat("[0]", 6000)+letters(n-18000), syntax)
		checkError(t, strings.Repeat("[0]", 6000)+"."+letters(n-18001), invalid)
		checkError(t, strings.Repeat(".", n), syntax)
		checkError(t, `[k="`+letters(n-6)+`"]`, invalid)
		checkError(t, `[k="`+letters(n-4), syntax)
		checkError(t, "["+strings.Repeat("9", n-2)+"]", invalid)
		checkError(t, "[0"+strings.Repeat("9", n-3)+"]", syntax)
		checkError(t, "["+strings.Repeat("9", n-1), syntax)
	}
	checkError(t, strings.Repeat("\xff", 100000), api.ErrTooLong)
}

func TestPrintRefuses(t *testing.T) { // P6.1, P2
	for _, s := range oddSteps() {
		checkPrint(t, steps(s), "", api.ErrInvalid)
		checkPrint(t, steps("a", s), "", api.ErrInvalid)
		checkPrint(t, steps(s, "a"), "", api.ErrInvalid)
	}
	checkPrint(t, names(17), "", api.ErrInvalid)
	checkPrint(t, names(1000), "", api.ErrInvalid)
}

func TestParseOfAllShortTexts(t *testing.T) { // P6.1, P6.3
	tokens := []string{"a", "0", "7", ".", "[", "]", "=", `"`, `\`, "n", " ", "\n", `[k="`, `"]`}
	counts := make([]int, api.ErrUnavailable+1)
	checkExtensions(t, "", tokens, 4, counts)
	checkExtensions(t, `a[`, tokens, 3, counts)
	checkExtensions(t, `[k="`, tokens, 3, counts)
	checkExtensions(t, `[6`, tokens, 3, counts)
	checkExtensions(t, `[999`, tokens, 3, counts)
	if counts[api.OK] < 300 || counts[api.ErrSyntax] < 3000 || counts[api.ErrInvalid] < 20 {
		t.Errorf("the texts have the results %v", counts)
	}
}

// checkExtensions checks a text and all texts that up to so many tokens make of it.
func checkExtensions(t *testing.T, text string, tokens []string, more int, counts []int) {
	counts[checkAgrees(t, text)]++
	checkBack(t, text)
	if more == 0 || t.Failed() {
		return
	}
	for _, token := range tokens {
		checkExtensions(t, text+token, tokens, more-1, counts)
	}
}

// checkBack checks that a text that is accepted is the text of its path.
func checkBack(t *testing.T, text string) {
	t.Helper()
	if p, e := Parse(text); e == api.OK {
		checkPrint(t, p, text, api.OK)
	}
}

func TestParseOfEveryByteAtEveryPlace(t *testing.T) { // P6.1, P6.3
	text := `a-1.b[0].c[k="x\n\"\\]y"][12]`
	for i := range len(text) + 1 {
		for c := range 256 {
			one := string([]byte{byte(c)})
			texts := []string{text[:i] + one + text[i:], text[:i] + one}
			if i < len(text) {
				texts = append(texts, text[:i]+one+text[i+1:])
			}
			for _, s := range texts {
				checkAgrees(t, s)
				checkBack(t, s)
			}
		}
		checkAgrees(t, text[:i])
		checkAgrees(t, text[i:])
		checkAgrees(t, text[:i]+text[min(i+1, len(text)):])
	}
}

func randomValidStep(r *rand.Rand) api.Step {
	words := []string{"a", "b", "Z-/_", "0", "64", "007", letters(40)}
	values := []string{"", "x", "\n", `"`, `\`, `\n`, `a"]b`, "[0]", letters(200), strings.Repeat("\n", 200)}
	switch r.Intn(3) {
	case 0:
		return name(words[r.Intn(len(words))])
	case 1:
		return index(r.Intn(65))
	}
	return key(words[r.Intn(len(words))], values[r.Intn(len(values))])
}

func randomValidPath(r *rand.Rand) []api.Step {
	p := steps()
	for range r.Intn(17) {
		p = append(p, randomValidStep(r))
	}
	return p
}

// spoil changes a text at one place.
func spoil(r *rand.Rand, s string) string {
	pieces := []string{"", "", "a", "Z", "0", "9", ".", "[", "]", "=", `"`, `\`, `\n`, "-", " ", "\n", "\xff", "é", "[0]", ".a", `[k="x"]`, letters(38), letters(198), "99999999999999999999", strings.Repeat("[1]", 12)}
	from := r.Intn(len(s) + 1)
	to := min(len(s), from+r.Intn(3))
	return s[:from] + pieces[r.Intn(len(pieces))] + s[to:]
}

func TestRoundTrip(t *testing.T) { // P6.3
	r := rand.New(rand.NewSource(63))
	counts := make([]int, api.ErrUnavailable+1)
	for range 10000 {
		p := randomValidPath(r)
		s, e := Print(p)
		if e != api.OK {
			t.Fatalf("Print(%+v) = %d", p, e)
		}
		checkParse(t, s, p)
		for _, other := range []string{s, spoil(r, s), spoil(r, spoil(r, s))} {
			counts[checkAgrees(t, other)]++
			checkBack(t, other)
		}
	}
	for _, e := range []api.Errno{api.OK, api.ErrSyntax, api.ErrInvalid} {
		if counts[e] < 1000 {
			t.Errorf("only %d texts with the result %d", counts[e], e)
		}
	}
}

func TestTextsKeepNothing(t *testing.T) { // P2
	r := rand.New(rand.NewSource(2))
	for range 2000 {
		p := randomValidPath(r)
		before := slices.Clone(p)
		s, _ := Print(p)
		first, _ := Parse(s)
		for i := range first {
			first[i] = index(-1)
		}
		if !slices.Equal(p, before) {
			t.Fatalf("Print changed %+v to %+v", before, p)
		}
		checkText(t, s, before)
	}
}

func TestTextsOfAnything(t *testing.T) { // P1
	r := rand.New(rand.NewSource(1))
	for range 20000 {
		s := make([]byte, r.Intn(30))
		for i := range s {
			s[i] = byte(r.Intn(256))
			if r.Intn(8) > 0 {
				s[i] = `[]."\=01nak`[r.Intn(11)]
			}
		}
		checkAgrees(t, string(s))
		checkBack(t, string(s))
		p := steps()
		for range r.Intn(20) {
			p = append(p, randomStep(r))
		}
		if _, e := Print(p); (e == api.OK) != expectValid(p) || e != api.OK && e != api.ErrInvalid {
			t.Fatalf("Print(%+v) = %d", p, e)
		}
	}
}

func FuzzParse(f *testing.F) { // P6.1, P6.3
	for _, s := range []string{"", "a.b[0]", `spec.containers[name="web"].ports[0]`, "a..b", "a[01]", "a[65]", `[0="\n\"\\"]`, letters(41), strings.Repeat("[0]", 17), `[k="`} {
		f.Add(s)
	}
	f.Fuzz(func(t *testing.T, s string) {
		checkAgrees(t, s)
		checkBack(t, s)
	})
}
