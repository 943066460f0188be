package json

import (
	"math/rand"
	"slices"
	"strconv"
	"strings"
	"testing"

	"orchestrator/api"
)

// checkParse checks that a text is accepted with the value.
func checkParse(t *testing.T, s string, want api.Value) {
	t.Helper()
	if v, at, e := Parse(s); !same(v, want) || at != 0 || e != api.OK {
		t.Errorf("Parse(%q) = %+v, %d, %d; want %+v, 0, 0", s, v, at, e, want)
	}
}

// checkError checks that a text is refused with the offset and the error, and with no value.
func checkError(t *testing.T, s string, at int, code api.Errno) {
	t.Helper()
	if v, k, e := Parse(s); !same(v, api.Value{}) || k != at || e != code {
		t.Errorf("Parse(%q) = %+v, %d, %d; want no value, %d, %d", s, v, k, e, at, code)
	}
}

// checkAgrees checks that Parse answers what the other reader answers, and returns the error.
func checkAgrees(t *testing.T, s string) api.Errno {
	t.Helper()
	at, code := expectError(s)
	if code == api.OK {
		checkParse(t, s, expectValue(s))
	} else {
		checkError(t, s, at, code)
	}
	return code
}

// elements returns the beginning of a list with n elements and a comma behind each.
func elements(n int) string { return "[" + strings.Repeat("null,", n) }

// names returns n fields with names of their own and a comma behind each.
func names(n int) string {
	all := ""
	for i := range n {
		all += `"f` + strconv.Itoa(i) + `":null,`
	}
	return all
}

// begun returns the beginning of a list of lists with n values, where the next element of the innermost list may stand; n is from 588 to 600.
func begun(n int) string {
	full := strings.TrimSuffix(elements(64), ",") + "],"
	return "[" + strings.Repeat(full, 9) + elements(n-1-9*65-1)
}

// closed returns the text of a beginning with everything closed behind the last comma.
func closed(beginning, closings string) string {
	return strings.TrimSuffix(beginning, ",") + closings
}

func TestParseExamples(t *testing.T) { // P5.2
	checkError(t, `{"a":01}`, 6, api.ErrSyntax)
	checkError(t, `{"a":1,"a":2}`, 7, api.ErrExists)
	checkError(t, `[1,`, 3, api.ErrTruncated)
	checkParse(t, `{"a":1,"b":["x"]}`, fields(field("a", number(1)), field("b", list(text("x")))))
}

func TestParseAccepts(t *testing.T) { // P5.2
	checkParse(t, "null", api.Value{})
	checkParse(t, "true", boolean(true))
	checkParse(t, "false", boolean(false))
	checkParse(t, "0", number(0))
	checkParse(t, "-7", number(-7))
	checkParse(t, "1020", number(1020))
	checkParse(t, `""`, text(""))
	checkParse(t, `"a b"`, text("a b"))
	checkParse(t, "[]", list())
	checkParse(t, "{}", fields())
	checkParse(t, "[[],{},null,[0]]", list(list(), fields(), api.Value{}, list(number(0))))
	checkParse(t, `{"a":{"a":{"a":[]}}}`, fields(field("a", fields(field("a", fields(field("a", list())))))))
	checkParse(t, `[{"a":1},{"a":2}]`, list(fields(field("a", number(1))), fields(field("a", number(2)))))
	checkParse(t, `["true","1","[]"]`, list(text("true"), text("1"), text("[]")))
}

func TestParseOrderOfFields(t *testing.T) { // P5.2
	want := fields(field("-", number(1)), field("A", number(2)), field("a", number(3)), field("aa", list(text("x"))))
	parts := []string{`"-":1`, `"A":2`, `"a":3`, `"aa":["x"]`}
	for i := range 24 {
		left, order := slices.Clone(parts), []string{}
		for n := 4; n > 0; n-- {
			k := i % n
			i /= n
			order = append(order, left[k])
			left = slices.Delete(left, k, k+1)
		}
		checkParse(t, "{"+strings.Join(order, ",")+"}", want)
	}
}

func TestParseBlanks(t *testing.T) { // P5.2
	tokens := []string{"{", `"b"`, ":", "[", "-12", ",", `"x y"`, ",", "true", ",", "{", "}", ",", "[", "]", "]", ",", `"a"`, ":", "null", "}"}
	want := fields(field("a", api.Value{}), field("b", list(number(-12), text("x y"), boolean(true), fields(), list())))
	checkParse(t, strings.Join(tokens, ""), want)
	for _, blank := range []string{" ", "\t", "\n", "\r", " \r\n\t ", strings.Repeat(" ", 900)} {
		for i := range len(tokens) + 1 {
			checkParse(t, strings.Join(tokens[:i], "")+blank+strings.Join(tokens[i:], ""), want)
		}
		checkParse(t, blank+strings.Join(tokens, blank)+blank, want)
	}
	for _, scalar := range []string{"null", "true", "false", "0", "-1", `"a"`, "[]", "{}"} {
		for _, blank := range []string{" ", "\t", "\n", "\r", "\n\r\t "} {
			checkParse(t, blank+scalar, expectValue(scalar))
			checkParse(t, scalar+blank, expectValue(scalar))
			checkParse(t, blank+scalar+blank, expectValue(scalar))
		}
	}
}

func TestParseRefusesBlanksWithinTokens(t *testing.T) { // P5.2
	for _, blank := range []string{" ", "\t", "\n", "\r"} {
		for _, word := range []string{"null", "true", "false"} {
			for i := 1; i < len(word); i++ {
				checkError(t, word[:i]+blank+word[i:], i, api.ErrSyntax)
				checkError(t, "["+word[:i]+blank+word[i:]+"]", 1+i, api.ErrSyntax)
			}
		}
		checkError(t, "-"+blank+"1", 1, api.ErrSyntax)
		checkError(t, "1"+blank+"2", 2, api.ErrSyntax)
		checkError(t, "[1"+blank+"2]", 3, api.ErrSyntax)
		checkError(t, `{"a`+blank+`":1}`, 3, api.ErrSyntax)
		checkError(t, `{"`+blank+`a":1}`, 2, api.ErrSyntax)
		checkError(t, `"\`+blank+`n"`, 2, api.ErrSyntax)
	}
	for _, blank := range []string{"\t", "\n", "\r"} {
		checkError(t, `"a`+blank+`b"`, 2, api.ErrSyntax)
	}
	for _, other := range []string{"\v", "\f", "\x00", "\u00a0", "\ufeff"} {
		checkError(t, other+"1", 0, api.ErrSyntax)
		checkError(t, "1"+other, 1, api.ErrSyntax)
		checkError(t, "["+other+"]", 1, api.ErrSyntax)
	}
}

func TestParseNumbers(t *testing.T) { // P5.2
	for _, n := range []int{0, 1, -1, 9, 10, 11, 99, 100, -100, 123456789, 999999999999999, 1000000000000000, -999999999999999, -1000000000000000} {
		checkParse(t, strconv.Itoa(n), number(n))
		checkParse(t, "["+strconv.Itoa(n)+"]", list(number(n)))
		checkParse(t, `{"a":`+strconv.Itoa(n)+" }", fields(field("a", number(n))))
	}
	for _, c := range []struct {
		s  string
		at int
	}{
		{"00", 1}, {"01", 1}, {"007", 1}, {"-0", 1}, {"-00", 1}, {"-01", 1}, {"--1", 1}, {"+1", 0}, {"-a", 1}, {"-]", 1}, {"-\"", 1}, {".5", 0},
		{"1.5", 1}, {"1.0", 1}, {"0.5", 1}, {"1e3", 1}, {"1E3", 1}, {"0e0", 1}, {"-1.", 2}, {"1-", 1}, {"1-2", 1}, {"0x1", 1}, {"1_0", 1}, {"1a", 1}, {"-x", 1},
		{"0" + strings.Repeat("9", 50), 1}, {"-0" + strings.Repeat("9", 50), 1}, {"١", 0}, {"Infinity", 0}, {"NaN", 0}, {"-Infinity", 1},
	} {
		checkError(t, c.s, c.at, api.ErrSyntax)
		checkError(t, "[1,"+c.s+"]", 3+c.at, api.ErrSyntax)
		checkError(t, `{"a": `+c.s+"}", 6+c.at, api.ErrSyntax)
	}
	checkError(t, "-", 1, api.ErrTruncated)
	checkError(t, "[-", 2, api.ErrTruncated)
}

// outOfRange returns numbers beyond MaxNumber, among them such that wrap round to small ones.
func outOfRange() []string {
	beyond := []string{"1000000000000001", "1000000000000010", "2000000000000000", "9999999999999999", "10000000000000000", "9223372036854775807", "9223372036854775808", "18446744073709551616", "18446744073709551617", "340282366920938463463374607431768211457", "1" + strings.Repeat("0", 300), "1" + strings.Repeat("0", 19000), strings.Repeat("9", 19000)}
	for _, one := range slices.Clone(beyond) {
		beyond = append(beyond, "-"+one)
	}
	return beyond
}

func TestParseNumbersOutOfRange(t *testing.T) { // P5.2
	for _, n := range outOfRange() {
		checkError(t, n, 0, api.ErrRange)
		// What stands behind the digits is not looked at, nor whether anything does.
		for _, rest := range []string{"", " ", "\n", ",", "]", "}", "x", ".5", "e", "-", "\"", "\xff", ",1]", " 2"} {
			checkError(t, "  "+n+rest, 2, api.ErrRange)
			checkError(t, "["+n+rest, 1, api.ErrRange)
			checkError(t, "[0,"+n+rest, 3, api.ErrRange)
			checkError(t, `{"a":`+n+rest, 5, api.ErrRange)
		}
	}
	checkError(t, "["+strings.Repeat("9", 19998)+"x", 1, api.ErrRange)
	checkError(t, strings.Repeat("9", 20000), 0, api.ErrRange)
	checkError(t, strings.Repeat("9", 20001), 20000, api.ErrTooLong)
}

func TestParseStrings(t *testing.T) { // P5.2
	checkParse(t, `"\""`, text("\""))
	checkParse(t, `"\\"`, text("\\"))
	checkParse(t, `"\n"`, text("\n"))
	checkParse(t, `"\\n"`, text(`\n`))
	checkParse(t, `"a\"b\\c\nd"`, text("a\"b\\c\nd"))
	checkParse(t, `"{\"a\":[1]}"`, text(`{"a":[1]}`))
	checkParse(t, "\" ~\"", text(" ~"))
	for c := range 256 {
		s := string([]byte{byte(c)})
		if isOneOf(byte(c), characters()) && s != `"` && s != `\` {
			checkParse(t, `"`+s+`"`, text(s))
			checkParse(t, `["a`+s+`b"]`, list(text("a"+s+"b")))
		}
		if c < 32 || c > 126 {
			checkError(t, `"`+s+`"`, 1, api.ErrSyntax)
			checkError(t, `["ab`+s, 4, api.ErrSyntax)
		}
		if s != `"` && s != `\` && s != "n" {
			checkError(t, `"\`+s+`"`, 2, api.ErrSyntax)
			checkError(t, `["a\n\`+s, 6, api.ErrSyntax)
		}
	}
	checkError(t, `"\u0041"`, 2, api.ErrSyntax)
	checkError(t, `'a'`, 0, api.ErrSyntax)
}

func TestParseLengthOfStrings(t *testing.T) { // P5.2
	for _, c := range []struct{ written, read string }{{"a", "a"}, {" ", " "}, {`\"`, `"`}, {`\\`, `\`}, {`\n`, "\n"}} {
		for _, n := range []int{1, 2, 199, 200} {
			checkParse(t, `"`+strings.Repeat(c.written, n)+`"`, text(strings.Repeat(c.read, n)))
			checkError(t, `"`+strings.Repeat(c.written, n), 1+n*len(c.written), api.ErrTruncated)
		}
		full := `["` + strings.Repeat(c.written, 200)
		for _, next := range []string{"a", "~", "b\"", `\n`, `\"`, `\\`, `\`, `\x`, "\\\xff", "a\x01"} {
			checkError(t, full+next, len(full), api.ErrTooLong)
			checkError(t, full+next+`"]`, len(full), api.ErrTooLong)
		}
		for _, next := range []string{"\x00", "\x1f", "\n", "\x7f", "\xff"} {
			checkError(t, full+next+`"]`, len(full), api.ErrSyntax)
		}
	}
	mixed := strings.Repeat(`a\n`, 100)
	checkParse(t, `"`+mixed+`"`, text(strings.Repeat("a\n", 100)))
	checkError(t, `"`+mixed+`a"`, 301, api.ErrTooLong)
}

func TestParseNames(t *testing.T) { // P5.2
	for c := range 256 {
		s := string([]byte{byte(c)})
		if isOneOf(byte(c), nameBytes) {
			checkParse(t, `{"`+s+`":1}`, fields(field(s, number(1))))
			checkParse(t, `{"a`+s+`b":1}`, fields(field("a"+s+"b", number(1))))
			continue
		}
		checkError(t, `{"`+s+`":1}`, 2, api.ErrSyntax)
		if s != `"` {
			checkError(t, `{"a`+s+`":1}`, 3, api.ErrSyntax)
		}
	}
	checkError(t, `{"":1}`, 2, api.ErrSyntax)
	checkError(t, `{"a":1,"":2}`, 8, api.ErrSyntax)
	for _, s := range []string{`{"a\n":1}`, `{"a\"":1}`, `{"a\\":1}`, `{"a\`} {
		checkError(t, s, 3, api.ErrSyntax)
	}
	checkError(t, `{a:1}`, 1, api.ErrSyntax)
	checkError(t, `{'a':1}`, 1, api.ErrSyntax)
	checkError(t, `{1:1}`, 1, api.ErrSyntax)
	checkError(t, `{null:1}`, 1, api.ErrSyntax)
}

func TestParseLengthOfNames(t *testing.T) { // P5.2
	for _, c := range []string{"a", "Z", "9", "-", "_", "/"} {
		for _, n := range []int{1, 2, 39, 40} {
			name := strings.Repeat(c, n)
			checkParse(t, `{"`+name+`":1}`, fields(field(name, number(1))))
			checkError(t, `{"`+name, 2+n, api.ErrTruncated)
		}
		full := `{"` + strings.Repeat(c, 40)
		for _, next := range []string{"a", "9", "/\"", "a:", "b\xff"} {
			checkError(t, full+next, 42, api.ErrTooLong)
		}
		for _, next := range []string{" ", `\`, `\n`, ".", ":", "\x7f", "\xff", "\n"} {
			checkError(t, full+next+`":1}`, 42, api.ErrSyntax)
		}
	}
}

func TestParseEqualNames(t *testing.T) { // P5.2
	checkError(t, `{"a":1,"a":1}`, 7, api.ErrExists)
	checkError(t, `{"a":1, "b":2 , "a" : 3}`, 16, api.ErrExists)
	checkError(t, `{"b":1,"a":2,"c":3,"b":4}`, 19, api.ErrExists)
	checkError(t, `{"b":{"a":1,"a":2}}`, 12, api.ErrExists)
	checkError(t, `[{"a":1},{"a":1,"a":2}]`, 16, api.ErrExists)
	checkError(t, `{"a":{"b":1},"a":2}`, 13, api.ErrExists)
	long := strings.Repeat("n", 40)
	checkError(t, `{"`+long+`":1,"`+long+`":2}`, 46, api.ErrExists)
	// What stands behind the closing quote is not looked at.
	for _, rest := range []string{"", " ", ":", "x", "}", ":01", `"`, "\xff"} {
		checkError(t, `{"a":1,"a"`+rest, 7, api.ErrExists)
	}
	// The name is read to its closing quote first.
	checkError(t, `{"a":1,"a`, 9, api.ErrTruncated)
	checkError(t, `{"a":1,"a b":2}`, 9, api.ErrSyntax)
	checkError(t, `{"a":1,"a\":2}`, 9, api.ErrSyntax)
	checkParse(t, `{"a":1,"aa":2,"A":3}`, fields(field("A", number(3)), field("a", number(1)), field("aa", number(2))))
	checkParse(t, `{"a":{"a":1,"b":2},"b":{"a":3}}`, fields(field("a", fields(field("a", number(1)), field("b", number(2)))), field("b", fields(field("a", number(3))))))
	for i := range 63 {
		s := "{" + names(63) + `"f` + strconv.Itoa(i) + `":1}`
		checkError(t, s, len("{"+names(63)), api.ErrExists)
	}
}

func TestParseCounts(t *testing.T) { // P5.2
	for _, n := range []int{1, 2, 63, 64} {
		whole := closed(elements(n), "]")
		checkParse(t, whole, list(make([]api.Value, n)...))
		checkParse(t, "["+whole+","+whole+"]", list(list(make([]api.Value, n)...), list(make([]api.Value, n)...)))
		s := "{" + closed(names(n), "}")
		checkParse(t, s, expectValue(s))
		if v, _, _ := Parse(s); len(v.Fields) != n {
			t.Errorf("%d fields of %d", len(v.Fields), n)
		}
	}
	full, fullMap := elements(64), "{"+names(64)
	for _, next := range []string{"1", "1]", "n", "x", "-", "-0", "01", "]", "", " ", "[", "{}", `"`, "}", ",", "tru"} {
		at, code := len(full), api.ErrTooLong
		switch {
		case next == "" || next == " ":
			at, code = len(full+next), api.ErrTruncated
		case !isOneOf(next[0], openings):
			code = api.ErrSyntax
		}
		checkError(t, full+next, at, code)
	}
	checkError(t, full+" \n1", len(full)+2, api.ErrTooLong)
	for _, next := range []string{`"`, `"a":1}`, `"f0":1}`, `""`, `"\`} {
		checkError(t, fullMap+next, len(fullMap), api.ErrTooLong)
		checkError(t, fullMap+"  "+next, len(fullMap)+2, api.ErrTooLong)
	}
	for _, next := range []string{"}", "a", "1", ",", "{", "]", "\xff"} {
		checkError(t, fullMap+next, len(fullMap), api.ErrSyntax)
	}
	checkError(t, fullMap, len(fullMap), api.ErrTruncated)
}

func TestParseDepth(t *testing.T) { // P5.2
	for n := 1; n <= 12; n++ {
		lists, maps := api.Value{}, api.Value{}
		for range n - 1 {
			lists, maps = list(lists), fields(field("a", maps))
		}
		checkParse(t, strings.Repeat("[", n-1)+"null"+strings.Repeat("]", n-1), lists)
		checkParse(t, strings.Repeat(`{"a":`, n-1)+"null"+strings.Repeat("}", n-1), maps)
	}
	checkParse(t, strings.Repeat("[", 11)+"[],{}"+strings.Repeat("]", 11), expectValue(strings.Repeat("[", 11)+"[],{}"+strings.Repeat("]", 11)))
	for _, deep := range []string{strings.Repeat("[", 12), strings.Repeat("[", 11) + "[ ", strings.Repeat(`{"a":`, 12), strings.Repeat(`[{"a":`, 6), strings.Repeat("[", 11) + `{"a": `} {
		for i := range 256 {
			c := string([]byte{byte(i)})
			switch {
			case isOneOf(byte(i), openings):
				checkError(t, deep+c, len(deep), api.ErrTooLong)
			case isOneOf(byte(i), blanks) || c == "]" && strings.HasSuffix(strings.TrimRight(deep, " "), "["):
				checkError(t, deep+c, len(deep)+1, api.ErrTruncated)
			default:
				checkError(t, deep+c, len(deep), api.ErrSyntax)
			}
		}
	}
	checkError(t, strings.Repeat("[", 20000), 12, api.ErrTooLong)
	checkError(t, strings.Repeat(`{"a":`, 4000), 60, api.ErrTooLong)
	// Values beside one another do not add to the depth.
	checkParse(t, "["+strings.Repeat("[[[]]],", 20)+"1]", expectValue("["+strings.Repeat("[[[]]],", 20)+"1]"))
}

func TestParseNumberOfValues(t *testing.T) { // P5.2
	for _, n := range []int{588, 598, 599, 600} {
		s := closed(begun(n), "]]")
		checkParse(t, s, expectValue(s))
	}
	full := begun(600)
	for _, next := range []string{"1", "1]]", "-", "null", "[]]]", "{", `"`, "01", "tx"} {
		checkError(t, full+next, len(full), api.ErrTooLong)
		checkError(t, full+" "+next, len(full)+1, api.ErrTooLong)
	}
	checkError(t, full, len(full), api.ErrTruncated)
	checkError(t, full+"x", len(full), api.ErrSyntax)
	checkError(t, full+"]", len(full), api.ErrSyntax)
	// The lists and maps themselves are values, those that are empty too, and so are the values of fields.
	for _, last := range []string{"[", "{}", "[]", `"a"`, "true", "0"} {
		s := begun(599) + last
		checkAgrees(t, s)
		checkAgrees(t, s+",1")
		checkAgrees(t, s+"]]")
	}
	checkError(t, begun(599)+"[1", len(begun(599))+1, api.ErrTooLong)
	checkError(t, begun(599)+"[],1", len(begun(599))+3, api.ErrTooLong)
	checkError(t, begun(599)+`{"a":1`, len(begun(599))+5, api.ErrTooLong)
	checkError(t, begun(598)+`{"a":1,"b":2`, len(begun(598))+11, api.ErrTooLong)
	// Names are no values.
	s := begun(598) + `{"a":1}]]`
	checkParse(t, s, expectValue(s))
	checkError(t, begun(599)+`{"a" `, len(begun(599))+5, api.ErrTruncated)
}

func TestParseTextLimits(t *testing.T) { // P5.2
	for _, n := range []int{19998, 19999, 20000} {
		checkParse(t, strings.Repeat(" ", n-1)+"1", number(1))
		checkParse(t, "[]"+strings.Repeat("\n", n-2), list())
		checkError(t, strings.Repeat("\t", n), n, api.ErrTruncated)
		checkError(t, "x"+strings.Repeat(" ", n-1), 0, api.ErrSyntax)
		checkParse(t, expectPrint(ofTextLength(n)), ofTextLength(n))
	}
	// A text that is too long is not read at all.
	for _, n := range []int{20001, 20002, 40000} {
		for _, c := range []string{" ", "1", "x", "[", "\xff", `"`} {
			checkError(t, strings.Repeat(c, n), 20000, api.ErrTooLong)
		}
		checkError(t, "1"+strings.Repeat(" ", n-1), 20000, api.ErrTooLong)
		checkError(t, strings.Repeat(" ", n-1)+"1", 20000, api.ErrTooLong)
		checkError(t, `{"a":1,"a":2}`+strings.Repeat(" ", n), 20000, api.ErrTooLong)
	}
	checkError(t, expectPrint(ofTextLength(20001)), 20000, api.ErrTooLong)
}

func TestParseEndsAtEveryPlace(t *testing.T) { // P5.2
	for _, s := range []string{"null", "true", "false", `"a\"b\\\n"`, "[]", "{}", `[1,-20,"x",[null],{"a":[]}]`, `{"a":1,"bc":{"d":[true,false]},"e":"f"}`, " [ 1 , { \"a\" : null } ] ", "\t{ }\n"} {
		end := len(strings.TrimRight(s, " \n"))
		for i := range end {
			checkError(t, s[:i], i, api.ErrTruncated)
		}
		for i := end; i <= len(s); i++ {
			checkParse(t, s[:i], expectValue(s))
		}
	}
	checkError(t, "", 0, api.ErrTruncated)
	for i := 2; i <= len("-120"); i++ {
		checkParse(t, "-120"[:i], expectValue("-120"[:i]))
	}
}

func TestParseBehindTheValue(t *testing.T) { // P5.2
	for _, s := range []string{"null", "true", "0", "-1", `""`, `"a"`, "[]", "[1]", "{}", `{"a":1}`, " 7 "} {
		for i := range 256 {
			c := string([]byte{byte(i)})
			if isOneOf(byte(i), blanks) || s == "-1" && isOneOf(byte(i), digits) {
				continue
			}
			checkError(t, s+c, len(s), api.ErrSyntax)
			checkError(t, s+" \n"+c, len(s)+2, api.ErrSyntax)
			checkError(t, s+" "+c+strings.Repeat("[", 30), len(s)+1, api.ErrSyntax)
		}
	}
}

func TestParseRefuses(t *testing.T) { // P5.2
	for _, c := range []struct {
		s  string
		at int
	}{
		{"x", 0}, {"Null", 0}, {"NULL", 0}, {"nul1", 3}, {"nulL", 3}, {"trux", 3}, {"truE", 3}, {"tfue", 1}, {"falsy", 4}, {"nulll", 4}, {"truefalse", 4},
		{"]", 0}, {"}", 0}, {",", 0}, {":", 0}, {`\`, 0}, {"\x00", 0}, {"\xff", 0}, {"é", 0}, {"//", 0},
		{"[,", 1}, {"[1,]", 3}, {"[1,,2]", 3}, {"[1 2]", 3}, {"[1}", 2}, {"[}", 1}, {"[:", 1}, {"[1:2]", 2}, {`["a":1]`, 4}, {"[1;2]", 2}, {"[nul]", 4},
		{"{,", 1}, {`{"a":1,}`, 7}, {`{"a":1,,`, 7}, {`{"a":1 "b"`, 7}, {`{"a":1]`, 6}, {"{]", 1}, {"{:", 1}, {`{"a",`, 4}, {`{"a"}`, 4}, {`{"a":}`, 5}, {`{"a":,`, 5}, {`{"a"::1`, 5}, {`{"a"=1`, 4}, {`{"a" 1}`, 5}, {`{"a"1}`, 4}, {"{}}", 2}, {"{[]:1}", 1}, {"{{", 1}, {`{"a":1:`, 6}, {`{"a":tru}`, 8},
	} {
		checkError(t, c.s, c.at, api.ErrSyntax)
		checkError(t, c.s+strings.Repeat("x", 30), c.at, api.ErrSyntax)
		checkError(t, " "+c.s, c.at+1, api.ErrSyntax)
		checkError(t, "[0 , "+c.s, c.at+5, api.ErrSyntax)
		checkAgrees(t, c.s)
	}
}

// place is a place in a text: the bytes that can follow, and those for which there is no room.
type place struct{ text, follow, tooLong string }

func places() []place {
	between, betweenFields, openingName := blanks+",]", blanks+",}", blanks+`"`
	return []place{
		{"", openings + blanks, ""}, {" ", openings + blanks, ""},
		{"n", "u", ""}, {"nu", "l", ""}, {"nul", "l", ""}, {"null", blanks, ""}, {"t", "r", ""}, {"tr", "u", ""}, {"tru", "e", ""}, {"true", blanks, ""}, {"f", "a", ""}, {"fa", "l", ""}, {"fal", "s", ""}, {"fals", "e", ""}, {"false", blanks, ""}, {"null ", blanks, ""},
		{"-", "123456789", ""}, {"0", blanks, ""}, {"1", digits + blanks, ""}, {"-1", digits + blanks, ""}, {"10", digits + blanks, ""}, {"1 ", blanks, ""}, {"[0", between, ""}, {"[-9", digits + between, ""},
		{`"`, characters(), ""}, {`"a`, characters(), ""}, {`"\`, `"\n`, ""}, {`"\n`, characters(), ""}, {`"\"`, characters(), ""}, {`"a"`, blanks, ""},
		{"[", openings + blanks + "]", ""}, {"[ ", openings + blanks + "]", ""}, {"[1", digits + between, ""}, {"[1 ", between, ""}, {"[1,", openings + blanks, ""}, {"[1, ", openings + blanks, ""}, {"[[]", between, ""}, {"[{}", between, ""}, {`["a"`, between, ""}, {"[true", between, ""}, {"[]", blanks, ""},
		{"{", openingName + "}", ""}, {"{ ", openingName + "}", ""}, {`{"`, nameBytes, ""}, {`{"a`, nameBytes + `"`, ""}, {`{"a"`, blanks + ":", ""}, {`{"a" `, blanks + ":", ""}, {`{"a":`, openings + blanks, ""}, {`{"a": `, openings + blanks, ""},
		{`{"a":1`, digits + betweenFields, ""}, {`{"a":1 `, betweenFields, ""}, {`{"a":[]`, betweenFields, ""}, {`{"a":{}`, betweenFields, ""}, {`{"a":1,`, openingName, ""}, {`{"a":1, `, openingName, ""}, {`{"a":1,"`, nameBytes, ""}, {"{}", blanks, ""},
		{strings.Repeat("[", 11), openings + blanks + "]", ""}, {strings.Repeat("[", 12), blanks + "]", openings}, {strings.Repeat(`{"a":`, 11), openings + blanks, ""}, {strings.Repeat(`{"a":`, 12), blanks, openings}, {strings.Repeat("[", 11) + "{", openingName + "}", ""},
		{elements(63), openings + blanks, ""}, {elements(64), blanks, openings}, {closed(elements(64), ""), between, ""}, {"{" + names(63), openingName, ""}, {"{" + names(64), blanks, `"`}, {"{" + closed(names(64), ""), betweenFields, ""},
		{begun(599), openings + blanks, ""}, {begun(600), blanks, openings}, {closed(begun(600), ""), between, ""}, {begun(599) + "[", blanks + "]", openings}, {begun(599) + "{", openingName + "}", ""}, {begun(599) + `{"a":`, blanks, openings},
		{`"` + strings.Repeat("a", 199), characters(), ""}, {`"` + strings.Repeat("a", 200), `"`, strings.ReplaceAll(characters(), `"`, "")}, {`"` + strings.Repeat(`\n`, 200), `"`, strings.ReplaceAll(characters(), `"`, "")}, {`"` + strings.Repeat("a", 199) + `\`, `"\n`, ""},
		{`{"` + strings.Repeat("a", 39), nameBytes + `"`, ""}, {`{"` + strings.Repeat("a", 40), `"`, nameBytes},
	}
}

func TestParseEveryByteAtEveryPlace(t *testing.T) { // P5.2, P5.5
	for _, p := range places() {
		k := len(p.text)
		if _, at, e := Parse(p.text); !(e == api.OK && at == 0 || e == api.ErrTruncated && at == k) {
			t.Errorf("Parse(%q) = %d, %d", p.text, at, e)
		}
		for i := range 256 {
			s := p.text + string([]byte{byte(i)})
			_, at, e := Parse(s)
			switch {
			case isOneOf(byte(i), p.tooLong):
				checkAllBeginWith(t, s, k, api.ErrTooLong)
			case !isOneOf(byte(i), p.follow):
				checkAllBeginWith(t, s, k, api.ErrSyntax)
			case !(e == api.OK && at == 0 || e == api.ErrTruncated && at == k+1):
				t.Errorf("Parse(%q) = %d, %d", s, at, e)
			}
		}
	}
}

// checkAllBeginWith checks that texts that begin with s have the error, whatever follows.
func checkAllBeginWith(t *testing.T, s string, at int, code api.Errno) {
	t.Helper()
	for _, rest := range []string{"", " ", "1", `"`, "]", "}", "x", "null", "\x00", `":1}`, `\`, strings.Repeat("9", 30), strings.Repeat("]", 20000-len(s))} {
		checkError(t, s+rest, at, code)
	}
}

func TestParseOrderOfErrors(t *testing.T) { // P5.2
	big := strings.Repeat("9", 20)
	for _, c := range []struct {
		s    string
		at   int
		code api.Errno
	}{
		{`[01,` + big, 2, api.ErrSyntax}, {`[` + big + `,01`, 1, api.ErrRange}, {`{"a":1,"a":` + big, 7, api.ErrExists}, {`{"a":` + big + `,"a":1`, 5, api.ErrRange},
		{`{"a":1,"a":01`, 7, api.ErrExists}, {`{"a":1x,"a":1`, 6, api.ErrSyntax}, {`{"a":1,"b":{"a":1,"a"`, 18, api.ErrExists}, {`{"a":1,"b":[` + big + `],"a":1}`, 12, api.ErrRange},
		{elements(64) + big, 321, api.ErrTooLong}, {closed(elements(63), ",") + big + ",1", 316, api.ErrRange}, {elements(64) + "-0", 321, api.ErrTooLong},
		{strings.Repeat("[", 12) + big, 12, api.ErrTooLong}, {strings.Repeat("[", 11) + big, 11, api.ErrRange}, {strings.Repeat("[", 12) + "-", 12, api.ErrTooLong},
		{strings.Repeat(`{"a":`, 11) + `{"a":1,"a":1`, 60, api.ErrTooLong}, {strings.Repeat(`{"a":`, 10) + `{"a":1,"a":1`, 57, api.ErrExists},
		{`{"` + strings.Repeat("a", 40) + `":1,"` + strings.Repeat("a", 41), 87, api.ErrTooLong}, {`{"` + strings.Repeat("a", 40) + `":1,"` + strings.Repeat("a", 40) + `"`, 46, api.ErrExists},
		{"{" + names(64) + `"f0"`, len("{" + names(64)), api.ErrTooLong}, {"{" + names(63) + `"f0"`, len("{" + names(63)), api.ErrExists}, {"{" + names(63) + `"f0`, len("{"+names(63)) + 3, api.ErrTruncated},
		{begun(600) + big, len(begun(600)), api.ErrTooLong}, {begun(599) + big + ",1", len(begun(599)), api.ErrRange}, {begun(599) + `{"a":1`, len(begun(599)) + 5, api.ErrTooLong},
		{`["` + strings.Repeat("a", 200) + `\`, 202, api.ErrTooLong}, {`["` + strings.Repeat("a", 199) + `\`, 202, api.ErrTruncated}, {`["` + strings.Repeat("a", 199) + `\x`, 202, api.ErrSyntax},
	} {
		checkError(t, c.s, c.at, c.code)
		checkAgrees(t, c.s)
	}
}

func TestParseOfAllShortTexts(t *testing.T) { // P5.2
	counts := make([]int, api.ErrUnavailable+1)
	checkExtensions(t, "", 5, counts)
	for e, least := range map[api.Errno]int{api.OK: 1000, api.ErrSyntax: 10000, api.ErrTruncated: 10000, api.ErrExists: 1} {
		if counts[e] < least {
			t.Errorf("only %d texts with the result %d", counts[e], e)
		}
	}
}

// checkExtensions checks text and all texts that go on by up to more pieces; behind an error of syntax there is nothing to see.
func checkExtensions(t *testing.T, s string, more int, counts []int) {
	e := checkAgrees(t, s)
	counts[e]++
	if more == 0 || e == api.ErrSyntax {
		return
	}
	for _, piece := range []string{"[", "]", "{", "}", ",", ":", `"`, `\`, "a", "n", "0", "1", "-", " ", "null", `"a":1`, `"a"`, "\n", "\x7f"} {
		checkExtensions(t, s+piece, more-1, counts)
	}
}

func randomBlanks(r *rand.Rand) string {
	return []string{"", "", "", "", " ", "\n", "\t", "\r", "  "}[r.Intn(9)]
}

// write writes a text of v with blanks here and there and with the fields in any order.
func write(r *rand.Rand, v api.Value) string {
	parts := []string{}
	for _, one := range v.List {
		parts = append(parts, write(r, one))
	}
	for _, one := range v.Fields {
		parts = append(parts, randomBlanks(r)+`"`+one.Name+`"`+randomBlanks(r)+":"+write(r, one.V))
	}
	r.Shuffle(len(v.Fields), func(i, k int) { parts[i], parts[k] = parts[k], parts[i] })
	inside := randomBlanks(r) + strings.Join(parts, ",")
	switch v.Kind {
	case api.VList:
		inside = "[" + inside + "]"
	case api.VMap:
		inside = "{" + inside + "}"
	default:
		inside = expectPrint(v)
	}
	return randomBlanks(r) + inside + randomBlanks(r)
}

// spoil changes a text at one place.
func spoil(r *rand.Rand, s string) string {
	pieces := []string{"", "", "a", "Z", "[", "]", "{", "}", ",", ":", `"`, `\`, `\n`, "-", "0", "1", "99999999999999999", " ", "\n", "\xff", "\x1f", "null", `"a":1,`, `"b":2,`, `,"a":1`, "[[[[[", elements(64), begun(599), strings.Repeat("a", 38), strings.Repeat("a", 198)}
	from := r.Intn(len(s) + 1)
	to := min(len(s), from+r.Intn(3))
	return s[:from] + pieces[r.Intn(len(pieces))] + s[to:]
}

// randomTexts returns texts of random values: as they are, spoiled, and with a further field that may be there already.
func randomTexts(r *rand.Rand, n int) []string {
	texts := []string{}
	for range n {
		s := write(r, randomValid(r, 1+r.Intn(6)))
		texts = append(texts, s, spoil(r, s), spoil(r, spoil(r, s)), strings.Replace(s, "{", `{"a":1,`, 1))
	}
	return texts
}

func TestParseAgreesWithTheOtherReader(t *testing.T) { // P5.2
	r := rand.New(rand.NewSource(52))
	counts := make([]int, api.ErrUnavailable+1)
	for _, s := range randomTexts(r, 20000) {
		counts[checkAgrees(t, s)]++
	}
	for _, e := range []api.Errno{api.OK, api.ErrSyntax, api.ErrTruncated, api.ErrTooLong, api.ErrRange, api.ErrExists} {
		if counts[e] < 100 {
			t.Errorf("only %d texts with the result %d", counts[e], e)
		}
	}
}

// checkCanonical checks that the value of a text that is accepted has a text that is not longer and has the same value.
func checkCanonical(t *testing.T, s string) {
	t.Helper()
	v, _, e := Parse(s)
	if e != api.OK {
		return
	}
	again, e := Print(v)
	if e != api.OK || len(again) > len(s) {
		t.Errorf("Print of the value of %q is %q, %d", s, again, e)
	}
	checkParse(t, again, v)
}

func TestCanonicalForm(t *testing.T) { // P5.4
	r := rand.New(rand.NewSource(54))
	for _, s := range randomTexts(r, 10000) {
		checkCanonical(t, s)
	}
	for _, s := range []string{`"\n"`, `"\""`, `"\\"`, " 0 ", `{"b":1,"a":2}`, closed(begun(600), "]]"), "{" + closed(names(64), "}"), expectPrint(ofTextLength(20000)), strings.Repeat(" ", 19999) + "1"} {
		checkCanonical(t, s)
		if _, _, e := Parse(s); e != api.OK {
			t.Errorf("Parse(%q) = %d", s, e)
		}
	}
}

// checkFirstError checks what the error of a text says of the texts with the same beginning.
func checkFirstError(t *testing.T, s, rest string) {
	t.Helper()
	_, k, e := Parse(s)
	if e != api.ErrSyntax && e != api.ErrTooLong || len(s) > 20000 {
		return
	}
	checkError(t, s[:k+1], k, e)
	checkError(t, (s[:k+1] + rest)[:min(20000, k+1+len(rest))], k, e)
	if _, at, before := Parse(s[:k]); !(before == api.OK && at == 0 || before == api.ErrTruncated && at == k) {
		t.Errorf("Parse(%q) = %d, %d, but with the byte behind it it is %d, %d", s[:k], at, before, k, e)
	}
}

func TestFirstError(t *testing.T) { // P5.5
	r := rand.New(rand.NewSource(55))
	texts := randomTexts(r, 10000)
	for _, s := range texts {
		checkFirstError(t, s, texts[r.Intn(len(texts))])
	}
}

// cells returns the places in memory that the slices of a value reach, spare ones included.
func cells(v api.Value) []any {
	all := []any{}
	spareList, spareFields := v.List[:cap(v.List)], v.Fields[:cap(v.Fields)]
	for i := range spareList {
		all = append(all, &spareList[i])
	}
	for i := range spareFields {
		all = append(all, &spareFields[i])
	}
	for _, one := range v.List {
		all = append(all, cells(one)...)
	}
	for _, one := range v.Fields {
		all = append(all, cells(one.V)...)
	}
	return all
}

func TestParsedValuesShareNothing(t *testing.T) { // P2
	s := `[[1,2],[1,2],{"b":[3],"a":{"c":[]}},[],[]]`
	taken := map[any]bool{}
	for range 2 {
		v, _, _ := Parse(s)
		for _, cell := range cells(v) {
			if taken[cell] {
				t.Fatal("two lists or two answers share memory")
			}
			taken[cell] = true
		}
	}
	v, _, _ := Parse(s)
	v.List[0].List[0] = text("spoiled")
	v.List[2].Fields[0].Name = "spoiled"
	checkParse(t, s, expectValue(s))
}

func TestParseKeepsNothing(t *testing.T) { // P2
	r := rand.New(rand.NewSource(2))
	texts := randomTexts(r, 500)
	for i, s := range texts {
		v, at, e := Parse(s)
		Parse(texts[len(texts)-1-i])
		if again, k, code := Parse(s); !same(v, again) || at != k || e != code {
			t.Fatalf("Parse(%q) = %+v, %d, %d and then %+v, %d, %d", s, v, at, e, again, k, code)
		}
	}
}

func TestParseOfAnything(t *testing.T) { // P1
	r := rand.New(rand.NewSource(1))
	for range 20000 {
		s := make([]byte, r.Intn(60))
		for i := range s {
			s[i] = byte(r.Intn(256))
			if r.Intn(2) == 0 {
				s[i] = `[]{},:"\-01na `[r.Intn(14)]
			}
		}
		checkAgrees(t, string(s))
	}
}

func FuzzParse(f *testing.F) { // P5.2, P5.4, P5.5
	for _, s := range []string{"", "null", " [ true , -12 ] ", `{"b":"x\n","a":{}}`, `{"a":1,"a":2}`, "[9999999999999999]", `"\x"`, strings.Repeat("[", 13), elements(65), begun(600)} {
		f.Add(s, "]")
	}
	f.Fuzz(func(t *testing.T, s, rest string) {
		checkAgrees(t, s)
		checkCanonical(t, s)
		checkFirstError(t, s, rest)
	})
}
