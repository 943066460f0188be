package json

import (
	"math"
	"math/rand"
	"reflect"
	"slices"
	"strings"
	"testing"

	"orchestrator/api"
)

// The values of the tests are made by hand, so that what a test expects does not come from the packages under test.

func boolean(b bool) api.Value {
	if b {
		return api.Value{Kind: api.VBool, N: 1}
	}
	return api.Value{Kind: api.VBool}
}

func number(n int) api.Value { return api.Value{Kind: api.VInt, N: n} }

func text(s string) api.Value { return api.Value{Kind: api.VString, S: s} }

func list(l ...api.Value) api.Value { return api.Value{Kind: api.VList, List: l} }

func fields(f ...api.Field) api.Value { return api.Value{Kind: api.VMap, Fields: f} }

func field(name string, v api.Value) api.Field { return api.Field{Name: name, V: v} }

// letters returns a string of n characters.
func letters(n int) api.Value { return text(strings.Repeat("a", n)) }

// duplicate copies v; slices that are empty become nil.
func duplicate(v api.Value) api.Value {
	other := api.Value{Kind: v.Kind, N: v.N, S: v.S}
	for _, one := range v.List {
		other.List = append(other.List, duplicate(one))
	}
	for _, one := range v.Fields {
		other.Fields = append(other.Fields, field(one.Name, duplicate(one.V)))
	}
	return other
}

// same reports whether a and b agree in all members, but for the difference of nil and empty.
func same(a, b api.Value) bool { return reflect.DeepEqual(duplicate(a), duplicate(b)) }

func checkPrint(t *testing.T, v api.Value, want string, code api.Errno) {
	t.Helper()
	if got, e := Print(v); got != want || e != code {
		t.Errorf("Print(%+v) = %q, %d; want %q, %d", v, got, e, want, code)
	}
}

func TestPrintExample(t *testing.T) { // P5.1
	checkPrint(t, fields(field("a", number(1)), field("b", list(text("x")))), `{"a":1,"b":["x"]}`, api.OK)
}

func TestPrintScalars(t *testing.T) { // P5.1
	checkPrint(t, api.Value{}, "null", api.OK)
	checkPrint(t, boolean(true), "true", api.OK)
	checkPrint(t, boolean(false), "false", api.OK)
	checkPrint(t, number(0), "0", api.OK)
	checkPrint(t, number(7), "7", api.OK)
	checkPrint(t, number(-10), "-10", api.OK)
	checkPrint(t, number(api.MaxNumber), "1000000000000000", api.OK)
	checkPrint(t, number(-api.MaxNumber), "-1000000000000000", api.OK)
}

func TestPrintStrings(t *testing.T) { // P5.1
	checkPrint(t, text(""), `""`, api.OK)
	checkPrint(t, text(" a/<&>'~\x7d"), `" a/<&>'~}"`, api.OK)
	checkPrint(t, text("\"\\\nn"), `"\"\\\nn"`, api.OK)
	checkPrint(t, text(`\n`), `"\\n"`, api.OK)
	for c := range 256 {
		s := string([]byte{byte(c)})
		switch {
		case c == 10:
			checkPrint(t, text(s), `"\n"`, api.OK)
		case s == `"` || s == `\`:
			checkPrint(t, text(s), `"\`+s+`"`, api.OK)
		case c >= 32 && c <= 126:
			checkPrint(t, text(s), `"`+s+`"`, api.OK)
		default:
			checkPrint(t, text(s), "", api.ErrInvalid)
		}
	}
	checkPrint(t, letters(200), `"`+strings.Repeat("a", 200)+`"`, api.OK)
	checkPrint(t, text(strings.Repeat("\n", 200)), `"`+strings.Repeat(`\n`, 200)+`"`, api.OK)
	checkPrint(t, letters(201), "", api.ErrInvalid)
}

func TestPrintListsAndMaps(t *testing.T) { // P5.1
	checkPrint(t, list(), "[]", api.OK)
	checkPrint(t, api.Value{Kind: api.VList, List: []api.Value{}, Fields: []api.Field{}}, "[]", api.OK)
	checkPrint(t, fields(), "{}", api.OK)
	checkPrint(t, list(api.Value{}), "[null]", api.OK)
	checkPrint(t, list(list(), fields(), list(list(number(1), number(2)))), "[[],{},[[1,2]]]", api.OK)
	checkPrint(t, fields(field("a", fields(field("b", list(boolean(true))))), field("c", text("d"))), `{"a":{"b":[true]},"c":"d"}`, api.OK)
	checkPrint(t, fields(field("-_/", number(1)), field("0", number(2)), field("A", number(3)), field("a", number(4))), `{"-_/":1,"0":2,"A":3,"a":4}`, api.OK)
	long := strings.Repeat("n", 40)
	checkPrint(t, fields(field(long, number(1))), `{"`+long+`":1}`, api.OK)
	checkPrint(t, list(slices.Repeat([]api.Value{number(1)}, 64)...), "["+strings.Repeat("1,", 63)+"1]", api.OK)
}

// spoiled returns values that are not valid, each for one reason.
func spoiled() []api.Value {
	deep := list()
	for range 12 {
		deep = list(deep)
	}
	few := list(slices.Repeat([]api.Value{number(1)}, 64)...)
	return []api.Value{
		{Kind: -1}, {Kind: 6}, {Kind: math.MaxInt}, {Kind: math.MinInt},
		{N: 1}, {S: "a"}, {List: list(number(1)).List}, {Fields: fields(field("a", number(1))).Fields},
		{Kind: api.VBool, N: 2}, {Kind: api.VBool, N: -1}, {Kind: api.VInt, S: "1"}, {Kind: api.VString, S: "1", N: 1},
		number(api.MaxNumber + 1), number(-api.MaxNumber - 1), number(math.MaxInt), number(math.MinInt),
		text("\x1f"), text("\x7f"), text("\t"), text("\r"), text("\x00"), text("\xff"), text("é"), letters(201), letters(30000),
		list(slices.Repeat([]api.Value{number(1)}, 65)...), {Kind: api.VList, Fields: fields(field("a", number(1))).Fields},
		fields(field("", number(1))), fields(field("a b", number(1))), fields(field("a.b", number(1))), fields(field("a\n", number(1))), fields(field(strings.Repeat("a", 41), number(1))),
		fields(field("b", number(1)), field("a", number(1))), fields(field("a", number(1)), field("a", number(1))),
		deep, list(slices.Repeat([]api.Value{few}, 10)...),
	}
}

func TestPrintRefuses(t *testing.T) { // P5.1, P2
	for _, v := range spoiled() {
		checkPrint(t, v, "", api.ErrInvalid)
		checkPrint(t, list(number(1), v), "", api.ErrInvalid)
		checkPrint(t, fields(field("a", number(1)), field("b", v)), "", api.ErrInvalid)
	}
}

// ofTextLength returns a value whose text has n bytes; n is from 19902 to 20102.
func ofTextLength(n int) api.Value {
	half := list(slices.Repeat([]api.Value{letters(200)}, 49)...) // 49*202 + 48 + 2 = 9948 bytes
	return list(half, half, letters(n-2*9948-6))
}

func TestPrintTextLimits(t *testing.T) { // P5.1
	for n := 19950; n <= 20050; n++ {
		v := ofTextLength(n)
		want := expectPrint(v)
		if len(want) != n {
			t.Fatalf("the value has a text of %d bytes, not of %d", len(want), n)
		}
		if n <= 20000 {
			checkPrint(t, v, want, api.OK)
		} else {
			checkPrint(t, v, "", api.ErrTooLong)
		}
	}
}

func TestPrintTextLimitsWithEscapes(t *testing.T) { // P5.1
	for _, c := range []string{"\"", "\\", "\n"} {
		half := slices.Repeat([]api.Value{text(strings.Repeat(c, 200))}, 49) // 49*402 + 48 + 2 = 19748 bytes
		fits, tooLong := text(strings.Repeat(c, 124)+"a"), text(strings.Repeat(c, 125))
		v := list(append(half[:49:49], fits)...)
		checkPrint(t, v, expectPrint(v), api.OK)
		if s, _ := Print(v); len(s) != 20000 {
			t.Errorf("the text has %d bytes, not 20000", len(s))
		}
		checkPrint(t, list(append(half[:49:49], tooLong)...), "", api.ErrTooLong)
	}
}

func TestPrintOrderOfErrors(t *testing.T) { // P5.1
	long := ofTextLength(20050)
	for _, v := range spoiled() {
		checkPrint(t, list(long, v), "", api.ErrInvalid)
		checkPrint(t, list(v, long), "", api.ErrInvalid)
	}
	// This one is far too long: hundreds of names and strings, all as long as may be.
	longest := fields()
	for i := range 9 {
		names := fields()
		for j := range 64 {
			names.Fields = append(names.Fields, field(strings.Repeat("a", 38)+string(rune('A'+j/8))+string(rune('A'+j%8)), text(strings.Repeat("\n", 200))))
		}
		longest.Fields = append(longest.Fields, field(strings.Repeat("a", 39)+string(rune('A'+i)), names))
	}
	checkPrint(t, longest, "", api.ErrTooLong)
}

// randomString is mostly short, and sometimes as long as may be.
func randomString(r *rand.Rand) string {
	pieces := []string{"a", "Z", "0", " ", "~", "\n", "\"", "\\", "n", "/", "null", "}", "<"}
	s := ""
	for range r.Intn(6) {
		s += pieces[r.Intn(len(pieces))]
	}
	if r.Intn(50) == 0 {
		s = strings.Repeat(pieces[r.Intn(9)], 200)
	}
	return s
}

func randomNumber(r *rand.Rand) int {
	edges := []int{0, 1, -1, 9, 10, -10, 100, api.MaxNumber, -api.MaxNumber, api.MaxNumber - 1, 1 - api.MaxNumber}
	if r.Intn(2) == 0 {
		return edges[r.Intn(len(edges))]
	}
	return r.Intn(2*api.MaxNumber+1) - api.MaxNumber
}

// randomValid makes a valid value of at most the given depth.
func randomValid(r *rand.Rand, depth int) api.Value {
	kinds := 6
	if depth == 1 {
		kinds = 4
	}
	switch r.Intn(kinds) {
	case api.VBool:
		return boolean(r.Intn(2) == 0)
	case api.VInt:
		return number(randomNumber(r))
	case api.VString:
		return text(randomString(r))
	case api.VList:
		v := list()
		for range r.Intn(4) {
			v.List = append(v.List, randomValid(r, depth-1))
		}
		return v
	case api.VMap:
		v := fields()
		for _, name := range []string{"-", "-a", "/", "0", "A", "_", "a", "a-b", "aa", "b", strings.Repeat("c", 40)} {
			if r.Intn(4) == 0 {
				v.Fields = append(v.Fields, field(name, randomValid(r, depth-1)))
			}
		}
		return v
	}
	return api.Value{}
}

func TestPrintAgreesWithTheLibrary(t *testing.T) { // P5.1
	r := rand.New(rand.NewSource(51))
	for range 20000 {
		v := randomValid(r, 1+r.Intn(5))
		checkPrint(t, v, expectPrint(v), api.OK)
	}
}

func TestRoundTrip(t *testing.T) { // P5.3
	r := rand.New(rand.NewSource(53))
	values := []api.Value{ofTextLength(20000), list(slices.Repeat([]api.Value{ofTextLength(19950).List[0]}, 2)...)}
	for depth := range 12 {
		for range 2000 {
			values = append(values, randomValid(r, 1+depth))
		}
	}
	deepList, deepMap := number(1), number(1)
	for range 11 {
		deepList, deepMap = list(deepList), fields(field("a", deepMap))
	}
	values = append(values, deepList, deepMap, list(slices.Repeat([]api.Value{list(slices.Repeat([]api.Value{{}}, 63)...)}, 9)...))
	printed := 0
	for _, v := range values {
		s, e := Print(v)
		if e == api.ErrTooLong || e == api.ErrInvalid { // few random ones have too many values
			continue
		}
		printed++
		checkParse(t, s, v)
	}
	if printed < 20000 {
		t.Errorf("only %d of %d values have a text", printed, len(values))
	}
}

func TestPrintLeavesItsArgument(t *testing.T) { // P2
	r := rand.New(rand.NewSource(2))
	for range 1000 {
		v := randomValid(r, 4)
		before := duplicate(v)
		first, _ := Print(v)
		if second, _ := Print(v); first != second || !same(v, before) {
			t.Fatalf("Print changed %+v to %+v, or its answer %q to %q", before, v, first, second)
		}
	}
}

func TestPrintOfAnything(t *testing.T) { // P1
	itself := list(number(1), number(2))
	itself.List[1] = itself
	if s, e := Print(itself); s != "" || e != api.ErrInvalid {
		t.Errorf("Print of a list that contains itself = %q, %d", s, e)
	}
	huge := api.Value{}
	for range 11 {
		huge = list(slices.Repeat([]api.Value{huge}, 64)...)
	}
	if s, e := Print(huge); s != "" || e != api.ErrInvalid {
		t.Errorf("Print of a huge tree = %q, %d", s, e)
	}
	deep := api.Value{}
	for range 60000 {
		deep = fields(field("a", deep))
	}
	if s, e := Print(deep); s != "" || e != api.ErrInvalid {
		t.Errorf("Print of a deep tree = %q, %d", s, e)
	}
}
