package value

import (
	"math"
	"math/rand"
	"regexp"
	"slices"
	"strconv"
	"strings"
	"testing"

	"orchestrator/api"
)

// The forms of strings and names in another way of writing, to hold Valid against.
var (
	stringForm = regexp.MustCompile(`\A[\n -~]{0,200}\z`)
	nameForm   = regexp.MustCompile(`\A[a-zA-Z0-9_/-]{1,40}\z`)
)

func checkValid(t *testing.T, v api.Value, want bool) {
	t.Helper()
	if got := Valid(v); got != want {
		t.Errorf("Valid(%.300q) = %v", strconv.Itoa(v.Kind)+" "+v.S, got)
	}
}

// checkValidAtAnyPlace checks v, and v as a part of other values, which it makes invalid if it is.
func checkValidAtAnyPlace(t *testing.T, v api.Value, want bool) {
	t.Helper()
	checkValid(t, v, want)
	checkValid(t, rawList(v), want)
	checkValid(t, rawList(rawInt(1), v, rawInt(2)), want)
	checkValid(t, rawMap(field("a", v)), want)
	checkValid(t, rawMap(field("a", rawInt(1)), field("b", rawList(rawInt(1), v)), field("c", rawInt(1))), want)
}

func checkSize(t *testing.T, v api.Value, size, depth int) {
	t.Helper()
	if Size(v) != size || Depth(v) != depth {
		t.Errorf("Size %d, Depth %d of %v; want %d, %d", Size(v), Depth(v), v, size, depth)
	}
}

// many returns a list of n integers.
func many(n int) api.Value {
	return rawList(slices.Repeat([]api.Value{rawInt(1)}, n)...)
}

// manyFields returns a map of n fields.
func manyFields(n int) api.Value {
	v := rawMap()
	for i := range n {
		v.Fields = append(v.Fields, field("f"+strconv.Itoa(1000+i), rawInt(i)))
	}
	return v
}

func TestValidKinds(t *testing.T) { // P4.2
	for kind := range 6 {
		checkValidAtAnyPlace(t, api.Value{Kind: kind}, true)
		checkValidAtAnyPlace(t, api.Value{Kind: kind, List: []api.Value{}, Fields: []api.Field{}}, true)
	}
	for _, kind := range []int{math.MinInt, -api.MaxNumber, -2, -1, 6, 7, 9, 256, 1 << 32, math.MaxInt} {
		checkValidAtAnyPlace(t, api.Value{Kind: kind}, false)
	}
}

func TestValidUnusedMembers(t *testing.T) { // P4.2
	for kind := range 6 {
		checkValidAtAnyPlace(t, api.Value{Kind: kind, N: 1}, kind == api.VBool || kind == api.VInt)
		checkValidAtAnyPlace(t, api.Value{Kind: kind, N: -1}, kind == api.VInt)
		checkValidAtAnyPlace(t, api.Value{Kind: kind, S: "s"}, kind == api.VString)
		checkValidAtAnyPlace(t, api.Value{Kind: kind, List: []api.Value{{}}}, kind == api.VList)
		checkValidAtAnyPlace(t, api.Value{Kind: kind, Fields: []api.Field{field("a", api.Value{})}}, kind == api.VMap)
	}
}

func TestValidNumbers(t *testing.T) { // P4.2
	for _, n := range []int{math.MinInt, -api.MaxNumber - 1, -api.MaxNumber, -api.MaxNumber + 1, -2, -1, 0, 1, 2, 3, api.MaxNumber - 1, api.MaxNumber, api.MaxNumber + 1, math.MaxInt} {
		checkValidAtAnyPlace(t, api.Value{Kind: api.VBool, N: n}, n == 0 || n == 1)
		checkValidAtAnyPlace(t, rawInt(n), n >= -1000000000000000 && n <= 1000000000000000)
	}
	checkValid(t, Bool(true), true)
	checkValid(t, Bool(false), true)
	checkValid(t, Null(), true)
}

// edgeTexts are texts around the limits of strings and names, and texts with every byte in several places.
func edgeTexts() []string {
	texts := []string{"", "a\nb", "a/b", "a-b_c", "a b", "a.b", "é", "日本", "\r\n", "\t"}
	for _, n := range []int{1, 2, 39, 40, 41, 199, 200, 201, 1000} {
		texts = append(texts, strings.Repeat("a", n), strings.Repeat("~", n), strings.Repeat("\n", n), strings.Repeat("/", n), strings.Repeat("é", n/2))
	}
	for c := range 256 {
		b := string([]byte{byte(c)})
		for _, n := range []int{39, 40, 199, 200} {
			texts = append(texts, strings.Repeat("a", n)+b, b+strings.Repeat("a", n))
		}
		texts = append(texts, b, "a"+b, b+"a", "a"+b+"a")
	}
	return texts
}

func TestValidStrings(t *testing.T) { // P4.2
	for _, s := range edgeTexts() {
		checkValidAtAnyPlace(t, api.Value{Kind: api.VString, S: s}, stringForm.MatchString(s))
	}
	long := strings.Repeat("s", api.MaxString)
	checkValid(t, String(long), true)
	checkValid(t, String(long+"s"), false)
	checkValid(t, String(" ~\n"), true)
	for _, s := range []string{"\x00", "\x09", "\x0b", "\x0d", "\x1f", "\x7f", "\x80", "\xff", "é"} {
		checkValid(t, String(s), false)
	}
}

func TestValidNames(t *testing.T) { // P4.2
	for _, name := range edgeTexts() {
		want := nameForm.MatchString(name)
		checkValidAtAnyPlace(t, rawMap(field(name, rawInt(1))), want)
		if name > "-" {
			checkValidAtAnyPlace(t, rawMap(field("-", rawInt(1)), field(name, rawInt(1))), want)
		}
	}
	long := strings.Repeat("n", api.MaxName)
	checkValid(t, rawMap(field(long, rawInt(1))), true)
	checkValid(t, rawMap(field(long+"n", rawInt(1))), false)
	checkValid(t, rawMap(field("", rawInt(1))), false)
	checkValid(t, rawMap(field("aZ09-_/", rawInt(1))), true)
}

func TestValidOrderOfNames(t *testing.T) { // P4.2
	named := func(names ...string) api.Value {
		v := rawMap()
		for i, name := range names {
			v.Fields = append(v.Fields, field(name, rawInt(i)))
		}
		return v
	}
	checkValidAtAnyPlace(t, named("a", "b"), true)
	checkValidAtAnyPlace(t, named("b", "a"), false)
	checkValidAtAnyPlace(t, named("a", "a"), false)
	checkValidAtAnyPlace(t, named("a", "c", "b"), false)
	checkValidAtAnyPlace(t, named("a", "b", "a"), false)
	checkValidAtAnyPlace(t, named("a", "b", "b"), false)
	checkValidAtAnyPlace(t, named("-", "/", "0", "9", "A", "Z", "_", "a", "a-", "aa", "b", "z"), true)
	checkValidAtAnyPlace(t, named("_", "A"), false)
	checkValidAtAnyPlace(t, named("a", "Z"), false)
	checkValidAtAnyPlace(t, named("aa", "a"), false)
}

func TestValidCounts(t *testing.T) { // P4.2
	for _, n := range []int{0, 1, api.MaxList - 1, api.MaxList, api.MaxList + 1, 500} {
		checkValidAtAnyPlace(t, many(n), n <= 64)
		checkValidAtAnyPlace(t, manyFields(n), n <= 64)
	}
}

func TestValidDepth(t *testing.T) { // P4.2
	for _, n := range []int{1, 2, api.MaxDepth - 1, api.MaxDepth, api.MaxDepth + 1, 100} {
		checkValid(t, nested(n), n <= 12)
		checkValid(t, nestedMaps(n), n <= 12)
		checkValid(t, rawList(rawInt(1), nested(n)), n <= 11)
		checkValid(t, rawMap(field("a", nested(n)), field("b", rawInt(1))), n <= 11)
		checkValid(t, rawMap(field("a", rawInt(1)), field("b", nestedMaps(n))), n <= 11)
	}
}

// wide returns a list of lists with size values in all.
func wide(size int) api.Value {
	v := rawList()
	for left := size - 1; left > 0; {
		n := min(left, 1+api.MaxList)
		v.List = append(v.List, many(n-1))
		left -= n
	}
	return v
}

// wideMaps returns a map of maps with size values in all.
func wideMaps(size int) api.Value {
	v := manyFields(0)
	for left := size - 1; left > 0; {
		n := min(left, 1+api.MaxList)
		v.Fields = append(v.Fields, field("m"+strconv.Itoa(1000+len(v.Fields)), manyFields(n-1)))
		left -= n
	}
	return v
}

func TestValidSize(t *testing.T) { // P4.2
	for _, n := range []int{1, 2, 100, api.MaxValues - 1, api.MaxValues, api.MaxValues + 1, 2000} {
		if Size(wide(n)) != n || Size(wideMaps(n)) != n {
			t.Fatalf("the trees of %d values have others", n)
		}
		checkValid(t, wide(n), n <= 600)
		checkValid(t, wideMaps(n), n <= 600)
		checkValid(t, rawList(wide(n)), n <= 599)
		checkValid(t, rawMap(field("a", rawInt(1)), field("b", wideMaps(n))), n <= 598)
	}
}

func TestValidOfHugeTrees(t *testing.T) { // P4.2, P1
	// The lists share their memory, so that the tree is far greater than what is stored.
	v := api.Value{}
	for range api.MaxDepth - 1 {
		v = rawList(slices.Repeat([]api.Value{v}, api.MaxList)...)
	}
	checkValid(t, v, false)
}

// expectValid works out the validity by the sentences of the chapter, one after the other.
func expectValid(v api.Value) bool {
	number, text, list, fields := v.N == 0, v.S == "", len(v.List) == 0, len(v.Fields) == 0
	switch v.Kind {
	case api.VBool:
		number = v.N == 0 || v.N == 1
	case api.VInt:
		number = max(v.N, -v.N) <= api.MaxNumber
	case api.VString:
		text = stringForm.MatchString(v.S)
	case api.VList:
		list = len(v.List) <= 64 && !slices.ContainsFunc(v.List, func(one api.Value) bool { return !expectValid(one) })
	case api.VMap:
		fields = len(v.Fields) <= 64 && !slices.ContainsFunc(v.Fields, func(one api.Field) bool { return !nameForm.MatchString(one.Name) || !expectValid(one.V) })
		for i := range v.Fields {
			fields = fields && (i == 0 || v.Fields[i-1].Name < v.Fields[i].Name)
		}
	case api.VNull:
	default:
		return false
	}
	size, depth := measure(v)
	return number && text && list && fields && size <= 600 && depth <= 12
}

// spoil changes one member of one value of the tree, which mostly makes it invalid.
func spoil(r *rand.Rand, v *api.Value) {
	for len(v.List)+len(v.Fields) > 0 && r.Intn(3) > 0 {
		if len(v.List) > 0 {
			v = &v.List[r.Intn(len(v.List))]
		} else {
			v = &v.Fields[r.Intn(len(v.Fields))].V
		}
	}
	switch r.Intn(6) {
	case 0:
		v.Kind = r.Intn(9) - 2
	case 1:
		v.N = []int{-1, 0, 1, 2, api.MaxNumber + 1, -api.MaxNumber - 1}[r.Intn(6)]
	case 2:
		v.S = []string{"", "a", "\n", "\t"}[r.Intn(4)]
	case 3:
		v.List = append(v.List, api.Value{})
	case 4:
		v.Fields = append(v.Fields, field(randomName(r), api.Value{}))
	case 5:
		slices.Reverse(v.Fields)
	}
}

func TestValidAgreesWithTheChapter(t *testing.T) { // P4.2
	r := rand.New(rand.NewSource(42))
	seen := map[bool]int{}
	for range 20000 {
		v := randomValid(r, 4)
		checkValid(t, v, true)
		spoil(r, &v)
		want := expectValid(v)
		checkValid(t, v, want)
		seen[want]++
		other := randomValue(r, 4)
		checkValid(t, other, expectValid(other))
	}
	if seen[true] < 1000 || seen[false] < 1000 {
		t.Errorf("the cases are one-sided: %v", seen)
	}
}

// measure works out size and depth level by level.
func measure(v api.Value) (size, depth int) {
	for level := []api.Value{v}; len(level) > 0; depth++ {
		size += len(level)
		var below []api.Value
		for _, one := range level {
			below = append(below, one.List...)
			for _, f := range one.Fields {
				below = append(below, f.V)
			}
		}
		level = below
	}
	return size, depth
}

func TestSizeAndDepth(t *testing.T) { // P4.3
	for kind := -1; kind <= 6; kind++ {
		checkSize(t, api.Value{Kind: kind}, 1, 1)
		checkSize(t, api.Value{Kind: kind, List: []api.Value{}, Fields: []api.Field{}}, 1, 1)
		checkSize(t, api.Value{Kind: kind, List: []api.Value{{}}}, 2, 2)
		checkSize(t, api.Value{Kind: kind, Fields: []api.Field{{}}}, 2, 2)
		checkSize(t, api.Value{Kind: kind, List: []api.Value{{}, {}}, Fields: []api.Field{{}, {}, {}}}, 6, 2)
		checkSize(t, api.Value{Kind: kind, List: []api.Value{many(3)}, Fields: []api.Field{{V: nested(4)}}}, 9, 5)
		checkSize(t, api.Value{Kind: kind, List: []api.Value{nested(4)}, Fields: []api.Field{{V: many(3)}}}, 9, 5)
	}
	checkSize(t, rawList(rawInt(1), rawMap(field("a", nested(3)), field("a", nested(2))), rawInt(2)), 9, 5)
	checkSize(t, rawMap(field("a", nested(5)), field("b", rawInt(1))), 7, 6)
	checkSize(t, wide(1000), 1000, 3)
	checkSize(t, many(100000), 100001, 2)
	checkSize(t, nested(1000), 1000, 1000)
	checkSize(t, nestedMaps(1000), 1000, 1000)
}

func TestSizeAndDepthOfAnyValue(t *testing.T) { // P4.3
	r := rand.New(rand.NewSource(43))
	for range 5000 {
		v := randomValue(r, 5)
		size, depth := measure(v)
		checkSize(t, v, size, depth)
	}
}
