package fields

import (
	"fmt"
	"math/rand"
	"slices"
	"testing"

	"orchestrator/api"
	"orchestrator/path"
	"orchestrator/schema"
	"orchestrator/value"
)

// below returns the steps to what is directly below the value at p, or none if that value is a leaf. It asks only what the layers below answer for paths from the root.
func below(s api.Schema, v api.Value, p []api.Step) []api.Step {
	var steps []api.Step
	of, known := schema.At(s, p)
	here, _ := path.Get(v, p)
	switch {
	case !known || of.Kind != here.Kind:
	case of.Kind == api.VMap:
		for _, one := range here.Fields {
			steps = append(steps, api.Step{Kind: api.SField, Name: one.Name})
		}
	case of.Kind == api.VList && of.Key != "":
		for i, one := range here.List {
			key, ok := path.Get(one, []api.Step{{Kind: api.SField, Name: of.Key}})
			step := api.Step{Kind: api.SKey, Name: of.Key, Value: key.S}
			if !ok || key.Kind != api.VString || slices.Contains(steps[:i], step) {
				return nil
			}
			steps = append(steps, step)
		}
	}
	return steps
}

// leafPaths works out the leaves of v in the order in which they stand there: it starts with the root, and puts what is below in the place of a path, till nothing is below any.
func leafPaths(s api.Schema, v api.Value) [][]api.Step {
	paths := [][]api.Step{{}}
	for i := 0; i < len(paths); {
		p := paths[i]
		var longer [][]api.Step
		for _, one := range below(s, v, p) {
			longer = append(longer, append(slices.Clone(p), one))
		}
		if len(longer) == 0 {
			i++
			continue
		}
		paths = slices.Replace(paths, i, i+1, longer...)
	}
	return paths
}

// textsOf returns the texts of paths.
func textsOf(paths [][]api.Step) []string {
	texts := []string{}
	for _, p := range paths {
		text, _ := path.Print(p)
		texts = append(texts, text)
	}
	return texts
}

// expectPart works out the part of v with the given leaves: it sets one leaf at a time in what is empty at first.
func expectPart(t *testing.T, v api.Value, chosen [][]api.Step) api.Value {
	w := nothing(v)
	for _, p := range chosen {
		for i, step := range p {
			if _, ok := path.Get(w, p[:i]); !ok && step.Kind == api.SKey {
				w = setAt(t, w, p[:i], list())
			}
		}
		leaf, _ := path.Get(v, p)
		w = setAt(t, w, p, leaf)
	}
	return w
}

func setAt(t *testing.T, v api.Value, p []api.Step, x api.Value) api.Value {
	t.Helper()
	w, e := path.Set(v, p, x)
	if e != api.OK {
		t.Fatalf("%+v at %+v can't be set to %+v: %d", v, p, x, e)
	}
	return w
}

// choose returns those of the paths whose bit is set, and the others.
func choose(paths [][]api.Step, bits int) (chosen, others [][]api.Step) {
	for i, p := range paths {
		if bits>>i&1 == 1 {
			chosen = append(chosen, p)
		} else {
			others = append(others, p)
		}
	}
	return chosen, others
}

// checkChoice checks the two parts of v for the chosen ones of its leaves.
func checkChoice(t *testing.T, s api.Schema, v api.Value, chosen, others [][]api.Step) {
	t.Helper()
	keep, drop := expectPart(t, v, chosen), expectPart(t, v, others)
	if got := Keep(s, v, textsOf(chosen)); !same(got, keep) {
		t.Fatalf("Keep(%+v, %+v, %q) = %+v; want %+v", s, v, textsOf(chosen), got, keep)
	}
	if got := Drop(s, v, textsOf(chosen)); !same(got, drop) {
		t.Fatalf("Drop(%+v, %+v, %q) = %+v; want %+v", s, v, textsOf(chosen), got, drop)
	}
}

// smallValues are values with the fields a and k and lists of at most two elements, all those of one level more than the given ones.
func smallValues(inside []api.Value) []api.Value {
	all := []api.Value{list(), fields()}
	for i := range len(inside) + 1 {
		for j := range len(inside) + 1 {
			v, l := fields(), list()
			if i > 0 {
				v.Fields, l.List = append(v.Fields, field("a", inside[i-1])), append(l.List, inside[i-1])
			}
			if j > 0 {
				v.Fields, l.List = append(v.Fields, field("k", inside[j-1])), append(l.List, inside[j-1])
			}
			if i+j > 0 {
				all = append(all, v)
			}
			if i > 0 {
				all = append(all, l)
			}
		}
	}
	return all
}

func TestAllSmallValues(t *testing.T) { // P10.1, P10.3
	inner := smallValues([]api.Value{null(), text("x"), text("y")})
	items := keyedList(plain("a", keyedList(plain("a", word()))))
	schemas := []api.Schema{items, dictionary(items), structure(plain("a", items)), keyedList(plain("a", dictionary(flag()))), dictionary(dictionary(dictionary(flag()))), structure(plain("a", structure(plain("k", listOf(items))))), listOf(items)}
	// One value below the other ones is two levels deep.
	below := append([]api.Value{null(), text("x"), list(keyed("x", field("a", list(keyed("y")))))}, inner...)
	leaves := map[int]int{}
	for _, v := range smallValues(below) {
		for _, s := range schemas {
			paths := leafPaths(s, v)
			leaves[len(paths)]++
			checkSmall(t, s, v, paths)
		}
	}
	if leaves[1] < 10000 || leaves[2] < 3000 || leaves[3] < 800 || leaves[4] < 100 {
		t.Errorf("there are so many values with so many leaves: %v", leaves)
	}
}

// checkSmall checks all that is to be known of a small value.
func checkSmall(t *testing.T, s api.Schema, v api.Value, paths [][]api.Step) {
	t.Helper()
	want := textsOf(paths)
	slices.Sort(want)
	if got := Leaves(s, v); !sameSet(got, want) {
		t.Fatalf("Leaves(%+v, %+v) = %q; want %q", s, v, got, want)
	}
	for bits := range 1 << len(paths) {
		chosen, others := choose(paths, bits)
		checkChoice(t, s, v, chosen, others)
	}
}

var someNames = []string{"a", "a-", "b", "c", "k"}

var someTexts = []string{"", "x", "yy", "\n\"", "longer than nine"}

// maker makes schemas and values at random; odd is the chance of something that does not suit, in percent.
type maker struct {
	*rand.Rand
	odd int
}

func (m maker) strange() bool { return m.Intn(100) < m.odd }

// schema makes a valid schema of at most the given levels.
func (m maker) schema(levels int) api.Schema {
	if levels == 1 || m.Intn(6) == 0 {
		return []api.Schema{flag(), whole(), word(), structure()}[m.Intn(4)]
	}
	switch m.Intn(5) {
	case 0:
		return listOf(m.schema(levels - 1))
	case 1:
		return dictionary(m.schema(levels - 1))
	case 2:
		if levels > 2 {
			return keyedList(m.structure(levels-1, someNames[:4]).Fields...)
		}
	}
	return m.structure(levels, someNames)
}

func (m maker) structure(levels int, names []string) api.Schema {
	s := structure()
	for _, name := range names {
		if m.Intn(4) > 0 {
			s.Fields = append(s.Fields, api.SchemaField{Name: name, Required: m.Intn(4) == 0, Immutable: m.Intn(4) == 0, S: m.schema(levels - 1)})
		}
	}
	return s
}

// value makes a value that suits the schema if nothing in it is odd, but for Required fields and limits.
func (m maker) value(s api.Schema) api.Value {
	if m.strange() {
		others := severalValues()
		return others[m.Intn(len(others))]
	}
	v := api.Value{Kind: s.Kind}
	switch s.Kind {
	case api.VBool:
		v.N = m.Intn(2)
	case api.VInt:
		v.N = m.Intn(10)
	case api.VString:
		v.S = someTexts[m.Intn(len(someTexts))]
	case api.VList:
		v.List = m.elements(s)
	case api.VMap:
		v.Fields = m.fields(s)
	}
	return v
}

func (m maker) elements(s api.Schema) []api.Value {
	var all []api.Value
	for _, i := range m.Perm(len(someTexts))[:m.Intn(4)] {
		one := m.value(s.Items[0])
		if s.Key != "" && !m.strange() {
			one = value.With(one, "k", text(someTexts[i]))
		}
		all = append(all, one)
	}
	return all
}

func (m maker) fields(s api.Schema) []api.Field {
	var all []api.Field
	for _, name := range someNames {
		of, known := schema.At(s, []api.Step{{Kind: api.SField, Name: name}})
		switch {
		case !known && !m.strange() || m.Intn(4) == 0:
		case m.Intn(8) == 0 || !known:
			all = append(all, field(name, []api.Value{null(), fields(field("a", number(1)))}[m.Intn(2)]))
		default:
			all = append(all, field(name, m.value(of)))
		}
	}
	return all
}

// eachCase calls do with valid schemas and values at random.
func eachCase(t *testing.T, seed int64, n int, do func(r *rand.Rand, s api.Schema, v api.Value)) {
	t.Helper()
	r := rand.New(rand.NewSource(seed))
	for range n {
		s := maker{r, 0}.schema(3 + r.Intn(4))
		v := maker{r, []int{0, 5, 20}[r.Intn(3)]}.value(s)
		if !schema.Valid(s) {
			t.Fatalf("%+v is not valid", s)
		}
		if value.Valid(v) {
			do(r, s, v)
		}
	}
}

// disordered returns the chosen texts in any order, some of them twice, among texts that are no leaf's path.
func disordered(r *rand.Rand, chosen, others []string) []string {
	in := slices.Concat(set("a", "x", "[0]", "a-"), chosen, chosen[:len(chosen)/2])
	r.Shuffle(len(in), func(i, j int) { in[i], in[j] = in[j], in[i] })
	return slices.DeleteFunc(in, func(one string) bool { return slices.Contains(others, one) })
}

func TestAgreesWithTheChapter(t *testing.T) { // P10.1, P10.3
	many, nested := 0, 0
	eachCase(t, 101, 3000, func(r *rand.Rand, s api.Schema, v api.Value) {
		paths := leafPaths(s, v)
		texts := textsOf(paths)
		if !slices.IsSorted(texts) {
			nested++
		}
		if len(paths) > 5 {
			many++
		}
		checkLeaves(t, s, v, Union(texts, nil)...)
		for range 2 {
			chosen, others := choose(paths, r.Int())
			checkParts(t, s, v, disordered(r, textsOf(chosen), textsOf(others)), expectPart(t, v, chosen), expectPart(t, v, others))
		}
	})
	if many < 600 || nested < 150 {
		t.Errorf("%d values have many leaves, %d have them in another order than that of their texts", many, nested)
	}
}

// keyFields returns the paths of the key fields of the elements on the way to p.
func keyFields(p []api.Step) []string {
	var all []string
	for i, step := range p {
		if step.Kind == api.SKey {
			text, _ := path.Print(append(slices.Clone(p[:i+1]), api.Step{Kind: api.SField, Name: step.Name}))
			all = append(all, text)
		}
	}
	return all
}

func TestSplit(t *testing.T) { // P10.4, P10.5
	both, alone := 0, 0
	eachCase(t, 104, 6000, func(r *rand.Rand, s api.Schema, v api.Value) {
		paths := leafPaths(s, v)
		chosen, others := choose(paths, r.Int())
		in := textsOf(chosen)
		checkPartOf(t, "Keep", s, v, Keep(s, v, in), chosen)
		checkPartOf(t, "Drop", s, v, Drop(s, v, in), others)
		switch {
		case len(chosen) == 0 || len(others) == 0:
			alone++
		case len(paths) > 3:
			both++
		}
		all := Leaves(s, v)
		if got := Keep(s, v, all); !same(got, v) {
			t.Errorf("Keep(%+v, %+v, all) = %+v", s, v, got)
		}
		if got := Drop(s, v, nil); !same(got, v) {
			t.Errorf("Drop(%+v, %+v, nil) = %+v", s, v, got)
		}
	})
	if both < 1500 || alone < 500 {
		t.Errorf("%d values have leaves in both parts, %d in one alone", both, alone)
	}
}

// checkPartOf checks that the part of v has the given leaves as they are in v, and no others but key fields and an empty root.
func checkPartOf(t *testing.T, name string, s api.Schema, v, part api.Value, leaves [][]api.Step) {
	t.Helper()
	want := textsOf(leaves)
	for _, p := range leaves {
		was, _ := path.Get(v, p)
		if is, ok := path.Get(part, p); !ok || !same(is, was) {
			t.Errorf("%s of %+v: %+v at %+v", name, v, is, p)
		}
		want = append(want, keyFields(p)...)
	}
	if len(leaves) == 0 {
		want = set("")
		if !same(part, nothing(v)) {
			t.Errorf("%s of %+v with no leaf: %+v", name, v, part)
		}
	}
	if got := Leaves(s, part); !sameSet(got, Union(want, nil)) {
		t.Errorf("%s of %+v has the leaves %q; want %q", name, v, got, want)
	}
	// Fields and elements stay in order: what is left is v without some of them.
	if !value.Valid(part) || !within(v, part) && len(leaves) > 0 {
		t.Errorf("%s of %+v is %+v", name, v, part)
	}
}

// within reports whether less is v without some fields and elements.
func within(v, less api.Value) bool {
	if less.Kind != v.Kind || less.N != v.N || less.S != v.S {
		return false
	}
	i := 0
	for _, one := range v.List {
		if i < len(less.List) && within(one, less.List[i]) {
			i++
		}
	}
	j := 0
	for _, one := range v.Fields {
		if j < len(less.Fields) && less.Fields[j].Name == one.Name && within(one.V, less.Fields[j].V) {
			j++
		}
	}
	return i == len(less.List) && j == len(less.Fields)
}

func TestSplitSetsApart(t *testing.T) { // P10.4
	// Of values that differ in one leaf, one of the two parts differs.
	v := fields(field("a", number(1)), field("l", list(keyed("x", field("a", number(2))), keyed("y"))))
	s := structure(plain("a", whole()), plain("l", keyedList(plain("a", whole()))))
	for _, p := range leafPaths(s, v) {
		text, _ := path.Print(p)
		if p[len(p)-1].Name == "k" {
			continue
		}
		w := setAt(t, v, p, number(9))
		for _, in := range [][]string{nil, set(text), Leaves(s, v)} {
			if same(Keep(s, v, in), Keep(s, w, in)) && same(Drop(s, v, in), Drop(s, w, in)) {
				t.Errorf("%+v and %+v have the same parts", v, w)
			}
		}
	}
}

// anySchema makes a schema of which nothing is sure to be valid.
func anySchema(r *rand.Rand, levels int) api.Schema {
	s := api.Schema{Kind: r.Intn(8) - 1, Min: r.Intn(3), Max: r.Intn(3), Key: []string{"", "k"}[r.Intn(2)]}
	if r.Intn(2) == 0 {
		s = api.Schema{Kind: api.VMap}
	}
	if levels == 0 {
		return s
	}
	for range []int{0, 0, 1, 1, 2}[r.Intn(5)] {
		s.Items = append(s.Items, anySchema(r, levels-1))
	}
	for range r.Intn(4) {
		f := plain(append(someNames, "", "\xff")[r.Intn(7)], anySchema(r, levels-1))
		for range r.Intn(3) {
			f.Default = append(f.Default, anyValue(r, 2))
		}
		s.Fields = append(s.Fields, f)
	}
	return s
}

// anyValue makes a value of which nothing is sure to be valid: its fields may be in any order and doubled.
func anyValue(r *rand.Rand, levels int) api.Value {
	v := api.Value{Kind: r.Intn(8) - 1, N: r.Intn(3) - 1, S: someTexts[r.Intn(5)]}
	if r.Intn(2) == 0 {
		v = api.Value{Kind: api.VMap}
	}
	if levels == 0 {
		return v
	}
	for range r.Intn(3) {
		v.List = append(v.List, anyValue(r, levels-1))
	}
	for range r.Intn(4) {
		v.Fields = append(v.Fields, field(append(someNames, "", "\xff")[r.Intn(7)], anyValue(r, levels-1)))
	}
	return v
}

func TestAnyArguments(t *testing.T) { // P1, P2, P10.1, P10.3
	r := rand.New(rand.NewSource(2))
	schemas, values := severalSchemas(), severalValues()
	refused := 0
	for i := range 12000 {
		s, v := anySchema(r, r.Intn(4)), anyValue(r, r.Intn(5))
		switch i % 4 {
		case 0:
			s = schemas[r.Intn(len(schemas))]
		case 1:
			v = values[r.Intn(len(values))]
		}
		in := set("", "a", fmt.Sprint("a.", i%3), `[k="x"].a`, "\xff")[:r.Intn(6)]
		if schema.Valid(s) && value.Valid(v) {
			run(t, "Keep", Keep, s, v, in)
			run(t, "Drop", Drop, s, v, in)
			continue
		}
		refused++
		checkLeaves(t, s, v)
		checkParts(t, s, v, in, v, v)
	}
	if refused < 6000 {
		t.Errorf("only %d arguments are not valid", refused)
	}
}
