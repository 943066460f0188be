package defaults

import (
	"math/rand"
	"slices"
	"strings"
	"testing"

	"orchestrator/api"
	"orchestrator/schema"
	"orchestrator/value"
)

// place is a value to which the two functions come, with its schema.
type place struct {
	s api.Schema
	v *api.Value
}

// places returns the places in v, the root among them.
func places(s api.Schema, v *api.Value) []place {
	if s.Kind != v.Kind {
		return nil
	}
	all := []place{{s, v}}
	for i := range v.List {
		if len(s.Items) == 1 {
			all = append(all, places(s.Items[0], &v.List[i])...)
		}
	}
	for i := range v.Fields {
		if below, known := schemaBelow(s, v.Fields[i].Name); known {
			all = append(all, places(below, &v.Fields[i].V)...)
		}
	}
	return all
}

// schemaBelow returns the schema of the field of a map.
func schemaBelow(s api.Schema, name string) (api.Schema, bool) {
	if len(s.Items) == 1 {
		return s.Items[0], true
	}
	for _, one := range s.Fields {
		if one.Name == name {
			return one.S, true
		}
	}
	return api.Schema{}, false
}

// indexOf returns which field of a map has the name, or -1.
func indexOf(v api.Value, name string) int {
	return slices.IndexFunc(v.Fields, func(one api.Field) bool { return one.Name == name })
}

// expectFill works out what Fill must answer: it puts one default at a time into its place, till none is missing.
func expectFill(s api.Schema, v api.Value) api.Value {
	v = copied(v)
	for fillOne(places(s, &v)) {
	}
	return v
}

func fillOne(all []place) bool {
	for _, p := range all {
		for _, one := range p.s.Fields {
			at := indexOf(*p.v, one.Name)
			switch {
			case len(one.Default) == 0:
			case at < 0:
				p.v.Fields = append(p.v.Fields, field(one.Name, copied(one.Default[0])))
				slices.SortFunc(p.v.Fields, func(a, b api.Field) int { return strings.Compare(a.Name, b.Name) })
				return true
			case p.v.Fields[at].V.Kind == api.VNull:
				p.v.Fields[at].V = copied(one.Default[0])
				return true
			}
		}
	}
	return false
}

// expectPrune works out what Prune must answer: it takes one field at a time away, till none has to go.
func expectPrune(s api.Schema, v api.Value) api.Value {
	v = copied(v)
	for pruneOne(places(s, &v)) {
	}
	return v
}

func pruneOne(all []place) bool {
	for _, p := range all {
		for i, one := range p.v.Fields {
			if _, known := schemaBelow(p.s, one.Name); !known || one.V.Kind == api.VNull {
				p.v.Fields = slices.Delete(p.v.Fields, i, i+1)
				return true
			}
		}
	}
	return false
}

var someNames = []string{"a", "b", "c", "d", "k"}

var someTexts = []string{"", "x", "yy", "longer than nine"}

// maker makes schemas and values at random; odd is the chance of something that does not suit, in percent.
type maker struct {
	*rand.Rand
	odd int
}

func (m maker) strange() bool { return m.Intn(100) < m.odd }

// schema makes a schema of at most the given levels, which is valid if nothing in it is odd.
func (m maker) schema(levels int) api.Schema {
	kind := 1 + m.Intn(5)
	if levels > 1 && m.Intn(3) > 0 {
		kind = api.VList + m.Intn(2)
	}
	if levels == 1 {
		kind = 1 + m.Intn(3)
	}
	switch kind {
	case api.VInt:
		return whole()
	case api.VString:
		return word()
	case api.VList:
		return m.list(levels)
	case api.VMap:
		if m.Intn(3) == 0 {
			return dictionary(m.schema(levels - 1))
		}
		return m.structure(levels)
	}
	return flag()
}

func (m maker) list(levels int) api.Schema {
	item := m.schema(levels - 1)
	if m.strange() {
		return listOf(slices.Repeat([]api.Schema{item}, 2*m.Intn(2))...)
	}
	s := listOf(item)
	k := slices.IndexFunc(item.Fields, func(one api.SchemaField) bool { return one.Name == "k" && one.S.Kind == api.VString })
	if k >= 0 {
		s.Key, s.Items[0].Fields[k].Required = "k", true
	}
	return s
}

func (m maker) structure(levels int) api.Schema {
	s := structure()
	for _, name := range someNames {
		if m.Intn(3) == 0 {
			continue
		}
		f := api.SchemaField{Name: name, Required: m.Intn(4) == 0, S: m.schema(levels - 1)}
		if name == "k" && m.Intn(2) == 0 {
			f.S = word()
		}
		v := m.value(f.S)
		if m.Intn(2) == 0 && v.Kind != api.VNull && (m.odd > 0 || len(schema.Check(f.S, v)) == 0) {
			f.Default = []api.Value{v}
		}
		s.Fields = append(s.Fields, f)
	}
	return s
}

// value makes a value that suits the schema if nothing in it is odd, but for Required fields and keys.
func (m maker) value(s api.Schema) api.Value {
	if m.strange() {
		others := severalValues()
		return others[m.Intn(len(others))]
	}
	v := api.Value{Kind: s.Kind}
	switch s.Kind {
	case api.VBool:
		v.N = m.Intn(2)
	case api.VInt:
		v.N = m.Intn(10)
	case api.VString:
		v.S = someTexts[m.Intn(3)]
	case api.VList:
		for range m.Intn(4) {
			item := word()
			if len(s.Items) > 0 {
				item = s.Items[0]
			}
			v.List = append(v.List, m.value(item))
		}
	case api.VMap:
		v.Fields = m.fields(s)
	}
	return v
}

func (m maker) fields(s api.Schema) []api.Field {
	var all []api.Field
	for _, name := range someNames {
		below, known := schemaBelow(s, name)
		switch {
		case !known && !m.strange() || m.Intn(3) == 0:
		case m.Intn(4) == 0:
			all = append(all, field(name, null()))
		default:
			all = append(all, field(name, m.value(below)))
		}
	}
	return all
}

// hasNull reports whether there is a null in v.
func hasNull(v api.Value) bool {
	return v.Kind == api.VNull || slices.ContainsFunc(v.List, hasNull) || slices.ContainsFunc(v.Fields, func(one api.Field) bool { return hasNull(one.V) })
}

// tidy reports whether no default of s contains a null or a field that its schema does not have.
func tidy(s api.Schema) bool {
	for _, one := range s.Items {
		if !tidy(one) {
			return false
		}
	}
	for _, one := range s.Fields {
		if !tidy(one.S) {
			return false
		}
		for _, v := range one.Default {
			if hasNull(v) || !same(v, expectPrune(one.S, v)) {
				return false
			}
		}
	}
	return true
}

// eachCase calls do with schemas and values at random, some of which suit each other and some of which are odd.
func eachCase(seed int64, n int, do func(s api.Schema, v api.Value)) {
	r := rand.New(rand.NewSource(seed))
	for range n {
		of := maker{r, []int{0, 0, 5}[r.Intn(3)]}
		s := of.schema(1 + r.Intn(5))
		if s.Kind < api.VList && r.Intn(10) > 0 {
			continue
		}
		for range 2 {
			do(s, maker{r, []int{0, 10, 30}[r.Intn(3)]}.value(s))
		}
	}
}

func TestAgreesWithTheChapter(t *testing.T) { // P8.1, P8.2
	filled, pruned, neither := 0, 0, 0
	eachCase(81, 10000, func(s api.Schema, v api.Value) {
		more, less := expectFill(s, v), expectPrune(s, v)
		switch {
		case !same(v, more):
			filled++
		case same(v, less):
			neither++
		}
		if !same(v, less) {
			pruned++
		}
		checkFill(t, s, v, more)
		checkPrune(t, s, v, less)
	})
	if filled < 2500 || pruned < 2500 || neither < 2500 {
		t.Errorf("%d values were filled, %d pruned, %d neither", filled, pruned, neither)
	}
}

func TestIdempotence(t *testing.T) { // P8.3
	either, ordered := 0, 0
	eachCase(83, 10000, func(s api.Schema, v api.Value) {
		filled, pruned := Fill(s, v), Prune(s, v)
		checkFill(t, s, filled, filled)
		checkPrune(t, s, pruned, pruned)
		both, other := Fill(s, pruned), Prune(s, filled)
		switch {
		case tidy(s):
			either++
			if !same(both, other) {
				t.Errorf("%+v under %+v: Fill after Prune = %+v, Prune after Fill = %+v", v, s, both, other)
			}
		case !same(both, other):
			ordered++
		}
		checkFill(t, s, both, both)
		checkPrune(t, s, other, other)
	})
	if either < 4000 || ordered < 200 {
		t.Errorf("%d times the order did not matter, %d times it did", either, ordered)
	}
}

// holds reports whether all that v has is in more as well, but for nulls.
func holds(more, v api.Value) bool {
	if v.Kind == api.VNull {
		return true
	}
	if more.Kind != v.Kind || more.N != v.N || more.S != v.S || len(more.List) != len(v.List) {
		return false
	}
	for i, one := range v.List {
		if !holds(more.List[i], one) {
			return false
		}
	}
	for _, one := range v.Fields {
		at := indexOf(more, one.Name)
		if at < 0 || !holds(more.Fields[at].V, one.V) {
			return false
		}
	}
	return true
}

// leaves reports whether less is v without some fields.
func leaves(v, less api.Value) bool {
	if less.Kind != v.Kind || less.N != v.N || less.S != v.S || len(less.List) != len(v.List) {
		return false
	}
	for i, one := range v.List {
		if !leaves(one, less.List[i]) {
			return false
		}
	}
	for _, one := range less.Fields {
		at := indexOf(v, one.Name)
		if at < 0 || !leaves(v.Fields[at].V, one.V) {
			return false
		}
	}
	return true
}

func TestWhatIsThereStays(t *testing.T) { // P8.4
	changed := 0
	eachCase(84, 30000, func(s api.Schema, v api.Value) {
		filled, pruned := Fill(s, v), Prune(s, v)
		if !holds(filled, v) {
			t.Errorf("Fill(%+v, %+v) = %+v", s, v, filled)
		}
		if !leaves(v, pruned) {
			t.Errorf("Prune(%+v, %+v) = %+v", s, v, pruned)
		}
		if !same(v, filled) && !same(v, pruned) {
			changed++
		}
	})
	if changed < 5000 {
		t.Errorf("only %d values change both ways", changed)
	}
}

func TestChecks(t *testing.T) { // P8.5
	r := rand.New(rand.NewSource(85))
	filled, pruned := 0, 0
	for range 40000 {
		s := maker{r, 0}.schema(1 + r.Intn(5))
		if !schema.Valid(s) {
			t.Fatalf("%+v is not valid", s)
		}
		v := maker{r, 0}.value(s)
		if len(schema.Check(s, v)) > 0 {
			continue
		}
		less, more := Prune(s, v), Fill(s, v)
		if l := schema.Check(s, less); len(l) > 0 {
			t.Errorf("Prune(%+v, %+v) = %+v has the errors %v", s, v, less, l)
		}
		if l := schema.Check(s, more); value.Valid(more) && len(l) > 0 {
			t.Errorf("Fill(%+v, %+v) = %+v has the errors %v", s, v, more, l)
		}
		if !same(v, less) {
			pruned++
		}
		if !same(v, more) {
			filled++
		}
	}
	if filled < 3000 || pruned < 3000 {
		t.Errorf("%d values were filled, %d pruned", filled, pruned)
	}
}

// anySchema makes a schema of which nothing is sure to be valid.
func anySchema(r *rand.Rand, levels int) api.Schema {
	s := api.Schema{Kind: r.Intn(8) - 1, Min: r.Intn(3), Max: r.Intn(3), Key: someTexts[r.Intn(2)]}
	if r.Intn(2) == 0 {
		s.Kind = api.VMap
	}
	if levels == 0 {
		return s
	}
	for range []int{0, 0, 1, 1, 2}[r.Intn(5)] {
		s.Items = append(s.Items, anySchema(r, levels-1))
	}
	for range r.Intn(4) {
		f := plain(append(someNames, "", "\xff")[r.Intn(7)], anySchema(r, levels-1))
		for range r.Intn(3) {
			f.Default = append(f.Default, anyValue(r, 2))
		}
		s.Fields = append(s.Fields, f)
	}
	return s
}

// anyValue makes a value of which nothing is sure to be valid: its fields may be in any order and doubled.
func anyValue(r *rand.Rand, levels int) api.Value {
	v := api.Value{Kind: r.Intn(8) - 1, N: r.Intn(3) - 1, S: someTexts[r.Intn(4)]}
	if r.Intn(2) == 0 {
		v.Kind = api.VMap
	}
	if levels == 0 {
		return v
	}
	for range r.Intn(3) {
		v.List = append(v.List, anyValue(r, levels-1))
	}
	for range r.Intn(4) {
		v.Fields = append(v.Fields, field(append(someNames, "", "\xff")[r.Intn(7)], anyValue(r, levels-1)))
	}
	return v
}

func TestAnyArguments(t *testing.T) { // P1, P2
	r := rand.New(rand.NewSource(2))
	for range 8000 {
		s, v := anySchema(r, r.Intn(4)), anyValue(r, r.Intn(5))
		run(t, "Fill", Fill, s, v)
		run(t, "Prune", Prune, s, v)
		if v.Kind != s.Kind {
			checkBoth(t, s, v, v)
		}
	}
}
