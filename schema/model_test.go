package schema

import (
	"maps"
	"math"
	"math/rand"
	"regexp"
	"slices"
	"strconv"
	"strings"
	"testing"

	"orchestrator/api"
	"orchestrator/path"
	"orchestrator/value"
)

// The forms of names and of strings as regular expressions.
var (
	nameForm = regexp.MustCompile(`\A[a-zA-Z0-9_/-]{1,40}\z`)
	textForm = regexp.MustCompile(`\A[\n\x20-\x7e]{0,200}\z`)
)

// levelsOf returns the depth of a schema, by the chapter's words.
func levelsOf(s api.Schema) int {
	levels := []int{0}
	for _, one := range s.Items {
		levels = append(levels, levelsOf(one))
	}
	for _, one := range s.Fields {
		levels = append(levels, levelsOf(one.S))
	}
	return 1 + slices.Max(levels)
}

// increasing reports whether each text is greater than the one before it.
func increasing(l []string) bool {
	return slices.Equal(l, slices.Sorted(maps.Keys(setOf(l))))
}

func setOf(l []string) map[string]bool {
	set := map[string]bool{}
	for _, one := range l {
		set[one] = true
	}
	return set
}

// partsOf returns s and all schemas below it.
func partsOf(s *api.Schema) []*api.Schema {
	all := []*api.Schema{s}
	for i := range s.Items {
		all = append(all, partsOf(&s.Items[i])...)
	}
	for i := range s.Fields {
		all = append(all, partsOf(&s.Fields[i].S)...)
	}
	return all
}

// expectValid works out what Valid must answer: it holds each part of the schema against the rules for its kind.
func expectValid(s api.Schema) bool {
	if levelsOf(s) > 12 {
		return false
	}
	for _, part := range partsOf(&s) {
		if !expectPart(*part) {
			return false
		}
	}
	return true
}

func expectPart(s api.Schema) bool {
	limits := map[int][2]int{api.VInt: {-1e15, 1e15}, api.VString: {0, 200}, api.VList: {0, 64}}
	limit, limited := limits[s.Kind]
	if limited && (s.Min < limit[0] || s.Min > s.Max || s.Max > limit[1]) {
		return false
	}
	// What is left when the members of the kind are taken away must be nothing.
	left := copiedSchema(s)
	left.Kind = 0
	if limited {
		left.Min, left.Max = 0, 0
	}
	switch s.Kind {
	case api.VBool, api.VInt:
	case api.VString:
		left.Enum = nil
		for _, one := range s.Enum {
			if len(one) < s.Min || len(one) > s.Max || !textForm.MatchString(one) {
				return false
			}
		}
		if len(s.Enum) > 64 || !increasing(s.Enum) {
			return false
		}
	case api.VList:
		if len(s.Items) != 1 || s.Key != "" && !expectKey(s) {
			return false
		}
		left.Items, left.Key = nil, ""
	case api.VMap:
		if len(s.Items) > 1 || len(s.Items) == 1 && len(s.Fields) > 0 || !expectFields(s) {
			return false
		}
		left.Items, left.Fields = nil, nil
	default:
		return false
	}
	return sameSchema(left, api.Schema{})
}

func expectKey(s api.Schema) bool {
	item := s.Items[0]
	return item.Kind == api.VMap && len(item.Items) == 0 && slices.ContainsFunc(item.Fields, func(one api.SchemaField) bool {
		return one.Name == s.Key && one.Required && one.S.Kind == api.VString
	})
}

func expectFields(s api.Schema) bool {
	names := []string{}
	for _, one := range s.Fields {
		names = append(names, one.Name)
		if !nameForm.MatchString(one.Name) || len(one.Default) > 1 {
			return false
		}
		for _, v := range one.Default {
			if v.Kind == api.VNull || len(expectCheck(one.S, v)) > 0 {
				return false
			}
		}
	}
	return len(names) <= 64 && increasing(names)
}

// fieldNamed returns the field of a structure, or nil.
func fieldNamed(s api.Schema, name string) *api.SchemaField {
	for i, one := range s.Fields {
		if one.Name == name {
			return &s.Fields[i]
		}
	}
	return nil
}

// valueNamed returns the value of a field of a map, or null.
func valueNamed(v api.Value, name string) api.Value {
	for _, one := range v.Fields {
		if one.Name == name {
			return one.V
		}
	}
	return api.Value{}
}

// toField and toElement are the texts of the paths below another.
func toField(at, name string) string {
	return strings.TrimPrefix(at+"."+name, ".")
}

func toElement(at string, s api.Schema, i int, v api.Value) string {
	k := valueNamed(v, s.Key)
	if s.Key == "" || k.Kind != api.VString {
		return at + "[" + strconv.Itoa(i) + "]"
	}
	return at + "[" + s.Key + `="` + strings.NewReplacer("\n", `\n`, `"`, `\"`, `\`, `\\`).Replace(k.S) + `"]`
}

// expectCheck works out what Check must answer, with the texts of the paths as it goes.
func expectCheck(s api.Schema, v api.Value) []api.FieldError {
	if !expectValid(s) || !value.Valid(v) {
		return faults("", api.ErrInvalid)
	}
	return expectErrors(s, v, "")
}

func expectErrors(s api.Schema, v api.Value, at string) []api.FieldError {
	all := []api.FieldError{}
	size, limited := map[int]int{api.VInt: v.N, api.VString: len(v.S), api.VList: len(v.List)}[s.Kind]
	switch {
	case s.Kind != v.Kind:
		return faults(at, api.ErrType)
	case limited && (size < s.Min || size > s.Max):
		all = faults(at, api.ErrRange)
	case len(s.Enum) > 0 && !setOf(s.Enum)[v.S]:
		return faults(at, api.ErrInvalid)
	}
	seen := map[string]bool{}
	for i, one := range v.List {
		here := toElement(at, s, i, one)
		all = append(all, expectErrors(s.Items[0], one, here)...)
		if k := valueNamed(one, s.Key); s.Key != "" && k.Kind == api.VString {
			if seen[k.S] {
				all = append(all, faults(here, api.ErrExists)...)
			}
			seen[k.S] = true
		}
	}
	for _, one := range v.Fields {
		below, known := schemaBelow(s, one.Name)
		if !known {
			all = append(all, faults(toField(at, one.Name), api.ErrInvalid)...)
		} else if one.V.Kind != api.VNull {
			all = append(all, expectErrors(below, one.V, toField(at, one.Name))...)
		}
	}
	for _, one := range s.Fields {
		if one.Required && valueNamed(v, one.Name).Kind == api.VNull {
			all = append(all, faults(toField(at, one.Name), api.ErrNotFound)...)
		}
	}
	return all
}

// schemaBelow returns the schema of the field of a map.
func schemaBelow(s api.Schema, name string) (api.Schema, bool) {
	if s.Kind == api.VMap && len(s.Items) > 0 {
		return s.Items[0], true
	}
	if f := fieldNamed(s, name); f != nil {
		return f.S, true
	}
	return api.Schema{}, false
}

// record is a map under a structure.
type record struct {
	s api.Schema
	v api.Value
}

// recordsOf adds the maps under structures to which one can come without an immutable field, by their paths.
func recordsOf(all map[string]record, s api.Schema, v api.Value, at string) {
	if s.Kind != v.Kind {
		return
	}
	seen := map[string]bool{}
	for i, one := range v.List {
		here := toElement(at, s, i, one)
		if strings.HasSuffix(here, `"]`) && !seen[here] {
			seen[here] = true
			recordsOf(all, s.Items[0], one, here)
		}
	}
	for _, one := range v.Fields {
		below, known := schemaBelow(s, one.Name)
		f := fieldNamed(s, one.Name)
		if known && (f == nil || !f.Immutable) {
			recordsOf(all, below, one.V, toField(at, one.Name))
		}
	}
	if s.Kind == api.VMap && len(s.Items) == 0 {
		all[at] = record{s, v}
	}
}

// expectChanges works out what Changes must answer by the maps that both values have under structures.
func expectChanges(s api.Schema, before, after api.Value) []api.FieldError {
	if !expectValid(s) || !value.Valid(before) || !value.Valid(after) {
		return nil
	}
	old, others := map[string]record{}, map[string]record{}
	recordsOf(old, s, before, "")
	recordsOf(others, s, after, "")
	changed := []string{}
	for at, one := range old {
		other, ok := others[at]
		for _, f := range one.s.Fields {
			was, is := valueNamed(one.v, f.Name), valueNamed(other.v, f.Name)
			if ok && f.Immutable && was.Kind != api.VNull && !same(was, is) {
				changed = append(changed, toField(at, f.Name))
			}
		}
	}
	slices.Sort(changed)
	l := []api.FieldError{}
	for _, one := range changed {
		l = append(l, faults(one, api.ErrImmutable)...)
	}
	return l
}

// expectAt works out what At must answer from the last step on: it takes the schemas of all paths one step shorter first.
func expectAt(s api.Schema, p []api.Step) (api.Schema, bool) {
	if !expectValid(s) || !path.Valid(p) {
		return api.Schema{}, false
	}
	if len(p) == 0 {
		return s, true
	}
	from, ok := expectAt(s, p[:len(p)-1])
	last := p[len(p)-1]
	switch {
	case !ok:
	case last.Kind == api.SField:
		return schemaBelow(from, last.Name)
	case from.Kind == api.VList && (last.Kind == api.SIndex || from.Key == last.Name):
		return from.Items[0], true
	}
	return api.Schema{}, false
}

var someNames = []string{"a", "b", "c", "k", "n"}

var someTexts = []string{"", "x", "y", "\n", "\"\\", "xyz"}

// randomSchema makes a valid schema of at most the given levels.
func randomSchema(r *rand.Rand, levels int) api.Schema {
	kind := 1 + r.Intn(5)
	if levels > 1 && r.Intn(3) > 0 {
		kind = api.VList + r.Intn(2)
	}
	if levels == 1 {
		kind = 1 + r.Intn(3)
	}
	switch kind {
	case api.VInt:
		low := r.Intn(3) - 1
		return whole(low, low+r.Intn(3))
	case api.VString:
		return randomWord(r)
	case api.VList:
		return randomList(r, levels)
	case api.VMap:
		if r.Intn(3) == 0 {
			return dictionary(randomSchema(r, levels-1))
		}
		return randomStructure(r, levels)
	}
	return flag()
}

// randomRoot makes a valid schema that has others below it.
func randomRoot(r *rand.Rand) api.Schema {
	switch levels := 3 + r.Intn(3); r.Intn(4) {
	case 0:
		return randomList(r, levels)
	case 1:
		return dictionary(randomSchema(r, levels-1))
	default:
		return randomStructure(r, levels)
	}
}

func randomWord(r *rand.Rand) api.Schema {
	s := word(r.Intn(2), 1+r.Intn(3))
	for _, one := range slices.Sorted(slices.Values(someTexts)) {
		if s.Min <= len(one) && len(one) <= s.Max && r.Intn(2) == 0 {
			s.Enum = append(s.Enum, one)
		}
	}
	if r.Intn(2) == 0 {
		s.Enum = nil
	}
	return s
}

func randomList(r *rand.Rand, levels int) api.Schema {
	low := r.Intn(2)
	s := listOf(low, low+1+r.Intn(3), randomSchema(r, levels-1))
	if levels < 3 || r.Intn(3) == 0 {
		return s
	}
	item := randomStructure(r, levels-1)
	item.Fields = slices.DeleteFunc(item.Fields, func(one api.SchemaField) bool { return one.Name == "k" })
	item.Fields = append(item.Fields, api.SchemaField{Name: "k", Required: true, Immutable: r.Intn(2) == 0, S: word(0, 3)})
	slices.SortFunc(item.Fields, func(a, b api.SchemaField) int { return strings.Compare(a.Name, b.Name) })
	s.Key, s.Items = "k", []api.Schema{item}
	return s
}

func randomStructure(r *rand.Rand, levels int) api.Schema {
	s := structure()
	for _, one := range someNames {
		if r.Intn(2) == 0 {
			continue
		}
		f := api.SchemaField{Name: one, Required: r.Intn(4) == 0, Immutable: r.Intn(3) == 0, S: randomSchema(r, levels-1)}
		v := randomValue(r, f.S, 0)
		if r.Intn(3) == 0 && len(expectErrors(f.S, v, "")) == 0 {
			f.Default = []api.Value{v}
		}
		s.Fields = append(s.Fields, f)
	}
	return s
}

// randomValue makes a value that mostly suits the schema; at each place it is another one with a chance of the given percentage.
func randomValue(r *rand.Rand, s api.Schema, odd int) api.Value {
	if r.Intn(100) < odd {
		others := append(severalValues(), number(s.Min-1), number(s.Max+1), text(letters(s.Max+1)), list(), many(5))
		return others[r.Intn(len(others))]
	}
	v := api.Value{Kind: s.Kind}
	switch s.Kind {
	case api.VBool:
		v.N = r.Intn(2)
	case api.VInt:
		v.N = s.Min + r.Intn(s.Max-s.Min+1)
	case api.VString:
		v.S = someTexts[r.Intn(len(someTexts))]
		if len(s.Enum) > 0 {
			v.S = s.Enum[r.Intn(len(s.Enum))]
		}
		if len(v.S) < s.Min || len(v.S) > s.Max {
			v.S = letters(s.Min)
		}
	case api.VList:
		for range s.Min + r.Intn(min(3, s.Max-s.Min+1)) {
			v.List = append(v.List, randomValue(r, s.Items[0], odd))
		}
	case api.VMap:
		v.Fields = randomFields(r, s, odd)
	}
	return v
}

func randomFields(r *rand.Rand, s api.Schema, odd int) []api.Field {
	var f []api.Field
	for _, one := range someNames {
		below, known := schemaBelow(s, one)
		known = known || r.Intn(100) < odd
		needed := fieldNamed(s, one)
		if !known || r.Intn(3) == 0 && (needed == nil || !needed.Required || r.Intn(100) < odd) {
			continue
		}
		v := randomValue(r, below, odd)
		if r.Intn(5) == 0 && (needed == nil || !needed.Required || r.Intn(100) < odd) {
			v = api.Value{}
		}
		f = append(f, field(one, v))
	}
	return f
}

// spoil changes one member of one part of a schema.
func spoil(r *rand.Rand, s *api.Schema) {
	parts := partsOf(s)
	part := parts[r.Intn(len(parts))]
	numbers := []int{-1, 0, 1, 2, 64, 65, 200, 201, 1e15, 1e15 + 1, -1e15, math.MinInt}
	switch r.Intn(9) {
	case 0:
		part.Kind = r.Intn(8) - 1
	case 1:
		part.Min = numbers[r.Intn(len(numbers))]
	case 2:
		part.Max = numbers[r.Intn(len(numbers))]
	case 3:
		part.Enum = append(slices.Clone(part.Enum), []string{"", "x", "z", "zzzz", "\xff"}[r.Intn(5)])
	case 4:
		part.Key = []string{"", "k", "a", "é"}[r.Intn(4)]
	case 5:
		part.Items = slices.Repeat([]api.Schema{randomSchema(r, 2)}, r.Intn(3))
	case 6:
		part.Fields = append(slices.Clone(part.Fields), plain([]string{"a", "m", "z", "", "a b"}[r.Intn(5)], randomSchema(r, 2)))
	default:
		if len(part.Fields) > 0 {
			spoilField(r, &part.Fields[r.Intn(len(part.Fields))])
		}
	}
}

func spoilField(r *rand.Rand, f *api.SchemaField) {
	switch r.Intn(4) {
	case 0:
		f.Required = !f.Required
	case 1:
		f.Name = []string{"a", "b", "k", "", "é"}[r.Intn(5)]
	case 2:
		f.Default = append(f.Default, severalValues()[r.Intn(len(severalValues()))])
	case 3:
		if expectValid(f.S) {
			f.Default = []api.Value{randomValue(r, f.S, 20)}
		}
	}
}

func TestValidAgreesWithTheChapter(t *testing.T) { // P7.1
	r := rand.New(rand.NewSource(71))
	counts := map[bool]int{}
	for range 30000 {
		s := randomSchema(r, 1+r.Intn(5))
		checkValid(t, s, true)
		for range 1 + r.Intn(2) {
			spoil(r, &s)
		}
		want := expectValid(s)
		counts[want]++
		checkValid(t, s, want)
	}
	if counts[true] < 3000 || counts[false] < 10000 {
		t.Errorf("the schemas are %v", counts)
	}
}

func TestCheckAgreesWithTheChapter(t *testing.T) { // P7.2
	r := rand.New(rand.NewSource(72))
	counts, none, several := make([]int, api.ErrUnavailable+1), 0, 0
	for range 30000 {
		s := randomRoot(r)
		v := randomValue(r, s, []int{0, 5, 20, 40}[r.Intn(4)])
		if r.Intn(20) == 0 {
			spoil(r, &s)
		}
		want := expectCheck(s, v)
		for _, one := range want {
			counts[one.Code]++
		}
		if len(want) == 0 {
			none++
		}
		if len(want) > 2 {
			several++
		}
		checkErrorList(t, s, v, want)
	}
	for _, e := range []api.Errno{api.ErrInvalid, api.ErrRange, api.ErrType, api.ErrNotFound, api.ErrExists} {
		if counts[e] < 500 {
			t.Errorf("only %d errors %d", counts[e], e)
		}
	}
	if none < 5000 || several < 2000 {
		t.Errorf("%d values without errors, %d with several", none, several)
	}
}

// alter changes some of the values in v to others that the schema might allow there.
func alter(r *rand.Rand, s api.Schema, v api.Value, percent int) api.Value {
	if r.Intn(100) < percent {
		return randomValue(r, s, 10)
	}
	other := api.Value{Kind: v.Kind, N: v.N, S: v.S}
	for _, one := range v.List {
		if s.Kind != api.VList {
			other.List = append(other.List, one)
		} else if r.Intn(100) >= percent {
			other.List = append(other.List, alter(r, s.Items[0], one, percent))
		}
	}
	if r.Intn(3) == 0 {
		r.Shuffle(len(other.List), func(i, j int) { other.List[i], other.List[j] = other.List[j], other.List[i] })
	}
	for _, one := range v.Fields {
		below, known := schemaBelow(s, one.Name)
		if !known {
			other.Fields = append(other.Fields, one)
		} else if one.Name == "k" && r.Intn(3) > 0 {
			other.Fields = append(other.Fields, one)
		} else if r.Intn(100) >= percent {
			other.Fields = append(other.Fields, field(one.Name, alter(r, below, one.V, percent)))
		}
	}
	return other
}

func TestChangesAgreeWithTheChapter(t *testing.T) { // P7.3
	r := rand.New(rand.NewSource(73))
	changes, byKey, several := 0, 0, 0
	for range 30000 {
		s := randomRoot(r)
		before := randomValue(r, s, []int{0, 5, 20}[r.Intn(3)])
		after := alter(r, s, before, []int{5, 15, 30}[r.Intn(3)])
		if r.Intn(20) == 0 {
			spoil(r, &s)
		}
		paths := []string{}
		for _, one := range expectChanges(s, before, after) {
			paths = append(paths, one.Path)
		}
		if len(paths) > 0 {
			changes++
		}
		if len(paths) > 1 {
			several++
		}
		if slices.ContainsFunc(paths, func(one string) bool { return strings.Contains(one, "[") }) {
			byKey++
		}
		checkChanges(t, s, before, after, paths...)
	}
	if changes < 3000 || several < 600 || byKey < 500 {
		t.Errorf("%d changes, %d of several fields, %d in keyed lists", changes, several, byKey)
	}
}

func TestNoChangeNoError(t *testing.T) { // P7.6
	r := rand.New(rand.NewSource(76))
	for range 40000 {
		s := randomSchema(r, 1+r.Intn(5))
		v := randomValue(r, s, []int{0, 5, 30}[r.Intn(3)])
		checkChanges(t, s, v, v)
		checkChanges(t, s, v, copied(v))
	}
	for _, v := range append(oddValues(), severalValues()...) {
		for _, s := range append(oddSchemas(), structure(fixed("a", whole(0, 5))), dictionary(structure(fixed("a", flag()))), keyedList("k", entry(fixed("n", whole(0, 9))))) {
			checkChanges(t, s, v, v)
		}
	}
	// Neither where keys are doubled.
	twice := list(keyed("x", 1), keyed("x", 2), keyed("x", 1), fields(), keyed("", 3))
	checkChanges(t, keyedList("k", entry(fixed("n", whole(0, 9)))), twice, twice)
}

// randomPath makes a path that mostly leads on in s.
func randomPath(r *rand.Rand, s api.Schema) []api.Step {
	p := steps()
	for range r.Intn(6) {
		kind := s.Kind
		if r.Intn(10) == 0 {
			kind = 1 + r.Intn(5)
		}
		step := name(someNames[r.Intn(len(someNames))])
		switch {
		case kind == api.VList && r.Intn(2) == 0:
			step = index(r.Intn(3))
		case kind == api.VList:
			step = key([]string{"k", "k", "a"}[r.Intn(3)], someTexts[r.Intn(len(someTexts))])
		case len(s.Fields) > 0 && r.Intn(5) > 0:
			step = name(s.Fields[r.Intn(len(s.Fields))].Name)
		}
		p = append(p, step)
		if next, ok := expectAt(s, steps(step)); ok {
			s = next
		}
	}
	if r.Intn(30) == 0 {
		p = append(p, []api.Step{{}, index(65), name(""), key("k", "\xff")}[r.Intn(4)])
	}
	return p
}

func TestAtAgreesWithTheChapter(t *testing.T) { // P7.4
	r := rand.New(rand.NewSource(74))
	counts := map[bool]int{}
	for range 20000 {
		s := randomSchema(r, 1+r.Intn(5))
		p := randomPath(r, s)
		if r.Intn(20) == 0 {
			spoil(r, &s)
		}
		want, found := expectAt(s, p)
		counts[found]++
		checkAt(t, s, p, want, found)
	}
	if counts[true] < 5000 || counts[false] < 5000 {
		t.Errorf("the paths are %v", counts)
	}
}

// pathsOf returns the paths of all values in v, the elements of lists both by index and by key.
func pathsOf(v api.Value) [][]api.Step {
	all := [][]api.Step{{}}
	add := func(step api.Step, below api.Value) {
		for _, one := range pathsOf(below) {
			all = append(all, append(steps(step), one...))
		}
	}
	for i, one := range v.List {
		add(index(i), one)
		if k := valueNamed(one, "k"); k.Kind == api.VString {
			add(key("k", k.S), one)
		}
	}
	for _, one := range v.Fields {
		add(name(one.Name), one.V)
	}
	return all
}

func TestPartsHaveNoErrors(t *testing.T) { // P7.5
	r := rand.New(rand.NewSource(75))
	parts := 0
	for range 8000 {
		s := randomSchema(r, 2+r.Intn(3))
		v := randomValue(r, s, r.Intn(2)*3)
		if len(Check(s, v)) > 0 {
			continue
		}
		for _, p := range pathsOf(v) {
			below, ok := At(s, p)
			part, found := path.Get(v, p)
			if ok && found && part.Kind != api.VNull {
				parts++
				checkErrors(t, below, part)
			}
		}
	}
	if parts < 20000 {
		t.Errorf("only %d parts", parts)
	}
}

func TestErrorsBelowAreThoseOfTheParts(t *testing.T) { // P7.2, P7.5
	r := rand.New(rand.NewSource(77))
	for range 10000 {
		s := randomSchema(r, 1+r.Intn(4))
		v := randomValue(r, s, 20)
		if v.Kind == api.VNull {
			continue
		}
		for _, outer := range []struct {
			s  api.Schema
			v  api.Value
			at string
		}{
			{structure(plain("f", s)), fields(field("f", v)), "f"},
			{dictionary(s), fields(field("a/b", v), field("z", api.Value{})), "a/b"},
			{listOf(1, 1, s), list(v), "[0]"},
			{keyedList("k", entry(plain("n", s))), list(fields(field("k", text("x")), field("n", v))), `[k="x"].n`},
		} {
			want := []api.FieldError{}
			for _, one := range Check(s, v) {
				below := toField(outer.at, one.Path)
				if one.Path == "" || strings.HasPrefix(one.Path, "[") {
					below = outer.at + one.Path
				}
				want = append(want, api.FieldError{Path: below, Code: one.Code})
			}
			checkErrorList(t, outer.s, outer.v, want)
		}
	}
}
