package apply

import (
	"math/rand"
	"slices"
	"strings"
	"testing"

	"orchestrator/api"
	"orchestrator/defaults"
	"orchestrator/fields"
	"orchestrator/path"
	"orchestrator/schema"
	"orchestrator/value"
)

func step(name string) api.Step { return api.Step{Kind: api.SField, Name: name} }

func below(p []api.Step, one api.Step) []api.Step { return append(slices.Clone(p), one) }

// expectFit works out whether v fits s: it goes to each value by its path from the root, elements by their numbers.
func expectFit(s api.Schema, v api.Value) bool {
	faults := schema.Check(s, v)
	if v.Kind != api.VMap || slices.ContainsFunc(faults, func(one api.FieldError) bool { return one.Code != api.ErrNotFound }) {
		return false
	}
	for paths := [][]api.Step{{}}; len(paths) > 0; paths = paths[1:] {
		of, _ := schema.At(s, paths[0])
		here, _ := path.Get(v, paths[0])
		for _, one := range here.Fields {
			paths = append(paths, below(paths[0], step(one.Name)))
		}
		for i := range here.List {
			element := below(paths[0], api.Step{Kind: api.SIndex, Index: i})
			key, found := path.Get(v, below(element, step(of.Key)))
			if of.Key != "" && (!found || key.Kind != api.VString) {
				return false
			}
			paths = append(paths, element)
		}
	}
	return true
}

// leafPaths returns the paths of the leaves of a pruned map that fits s, in the order in which they stand there: it starts with the root, and puts what is below in the place of a path, till nothing is below any.
func leafPaths(s api.Schema, v api.Value) [][]api.Step {
	paths := [][]api.Step{{}}
	for i := 0; i < len(paths); {
		of, _ := schema.At(s, paths[i])
		here, _ := path.Get(v, paths[i])
		var longer [][]api.Step
		for _, one := range here.Fields {
			longer = append(longer, below(paths[i], step(one.Name)))
		}
		for _, one := range here.List {
			if of.Key != "" {
				key, _ := path.Get(one, []api.Step{step(of.Key)})
				longer = append(longer, below(paths[i], api.Step{Kind: api.SKey, Name: of.Key, Value: key.S}))
			}
		}
		if len(longer) == 0 {
			i++
			continue
		}
		paths = slices.Replace(paths, i, i+1, longer...)
	}
	return slices.DeleteFunc(paths, func(p []api.Step) bool { return len(p) == 0 })
}

func textOf(p []api.Step) string {
	text, _ := path.Print(p)
	return text
}

// textsOf returns the texts of paths, sorted.
func textsOf(paths [][]api.Step) []string {
	texts := []string{}
	for _, p := range paths {
		texts = append(texts, textOf(p))
	}
	slices.Sort(texts)
	return texts
}

// expectManagers works out whether a list of managers is valid.
func expectManagers(m []api.Manager) bool {
	names := []string{}
	for _, one := range m {
		names = append(names, one.Name)
		if len(one.Fields) == 0 || !slices.Equal(one.Fields, fields.Union(one.Fields, nil)) {
			return false
		}
	}
	return len(names) <= 16 && slices.Equal(names, fields.Union(names, nil)) && !slices.ContainsFunc(names, func(one string) bool { return !expectName(one) })
}

func expectName(name string) bool { return len(name) > 0 && len(name) < 41 }

// expectSatisfied works out whether v satisfies the leaf at p of another value that fits s.
func expectSatisfied(s api.Schema, v, leaf api.Value, p []api.Step) bool {
	of, _ := schema.At(s, p)
	there, found := path.Get(v, p)
	empty := len(leaf.Fields)+len(leaf.List) == 0 && (leaf.Kind == api.VMap || leaf.Kind == api.VList && of.Key != "")
	return found && (same(there, leaf) || empty)
}

// expectMerge works out what config is merged over left: it sets one leaf at a time, and leaves the empty ones out where something is.
func expectMerge(t *testing.T, s api.Schema, left, config api.Value) (api.Value, bool) {
	t.Helper()
	w := left
	set := func(p []api.Step, x api.Value) bool {
		after, e := path.Set(w, p, x)
		if e != api.OK && e != api.ErrTooLong {
			t.Fatalf("%s at %s can't be set to %s: %d", valueText(w), textOf(p), valueText(x), e)
		}
		w = after
		return e == api.OK
	}
	for _, p := range leafPaths(s, config) {
		for i, one := range p {
			if _, found := path.Get(w, p[:i]); !found && one.Kind == api.SKey && !set(p[:i], list()) {
				return null(), false
			}
		}
		leaf, _ := path.Get(config, p)
		if !expectSatisfied(s, w, leaf, p) && !set(p, leaf) {
			return null(), false
		}
	}
	return w, true
}

// expectOwners puts managers with their fields together, sorted by name, without those that have none.
func expectOwners(owned map[string][]string) []api.Manager {
	var all []api.Manager
	for name, texts := range owned {
		if len(texts) > 0 {
			all = append(all, api.Manager{Name: name, Fields: texts})
		}
	}
	slices.SortFunc(all, func(a, b api.Manager) int { return strings.Compare(a.Name, b.Name) })
	return all
}

// expect works out what Apply answers, leaf by leaf.
func expect(t *testing.T, c call) answer {
	t.Helper()
	if !expectManagers(c.m) || !expectName(c.name) || !expectFit(c.s, c.live) || !expectFit(c.s, c.config) {
		return bad(api.ErrInvalid)
	}
	live, config := defaults.Prune(c.s, c.live), defaults.Prune(c.s, c.config)
	leaves := textsOf(leafPaths(c.s, config))
	owned, conflicts := map[string][]string{}, []api.Conflict{}
	for _, leaf := range leaves {
		p, _ := path.Parse(leaf)
		wanted, _ := path.Get(config, p)
		for _, one := range c.m {
			if one.Name != c.name && slices.Contains(one.Fields, leaf) && !expectSatisfied(c.s, live, wanted, p) {
				conflicts = append(conflicts, api.Conflict{Path: leaf, Manager: one.Name})
			}
		}
	}
	if len(conflicts) > 0 && !c.force {
		return bad(api.ErrConflict, conflicts...)
	}
	for _, one := range c.m {
		for _, leaf := range one.Fields {
			if !slices.Contains(conflicts, api.Conflict{Path: leaf, Manager: one.Name}) {
				owned[one.Name] = append(owned[one.Name], leaf)
			}
		}
	}
	owned[c.name] = leaves
	managers := expectOwners(owned)
	if len(managers) > 16 {
		return bad(api.ErrFull)
	}
	var gone []string
	for _, leaf := range textsOf(leafPaths(c.s, live)) {
		if slices.Equal(OwnersOf(c.m, leaf), []string{c.name}) && !slices.Contains(leaves, leaf) {
			gone = append(gone, leaf)
		}
	}
	after, ok := expectMerge(t, c.s, fields.Drop(c.s, live, gone), config)
	if !ok {
		return bad(api.ErrTooLong)
	}
	return answer{v: after, m: managers}
}

// expectUpdate works out what Update answers, leaf by leaf.
func expectUpdate(s api.Schema, before, after api.Value, m []api.Manager, name string) []api.Manager {
	if !expectManagers(m) || !expectName(name) || !expectFit(s, before) || !expectFit(s, after) {
		return m
	}
	before, after = defaults.Prune(s, before), defaults.Prune(s, after)
	owned, old := map[string][]string{}, textsOf(leafPaths(s, before))
	for _, leaf := range textsOf(leafPaths(s, after)) {
		p, _ := path.Parse(leaf)
		was, _ := path.Get(before, p)
		is, _ := path.Get(after, p)
		changed := !slices.Contains(old, leaf) || !same(was, is)
		if changed {
			owned[name] = append(owned[name], leaf)
		}
		for _, one := range OwnersOf(m, leaf) {
			if !changed {
				owned[one] = append(owned[one], leaf)
			}
		}
	}
	all := expectOwners(owned)
	if len(all) > 16 {
		delete(owned, name)
		all = expectOwners(owned)
	}
	return all
}

// subsets returns all choices of the texts.
func subsets(texts ...string) [][]string {
	all := [][]string{}
	for bits := range 1 << len(texts) {
		chosen := []string{}
		for i, one := range texts {
			if bits>>i&1 == 1 {
				chosen = append(chosen, one)
			}
		}
		slices.Sort(chosen)
		all = append(all, chosen)
	}
	return all
}

// checkAll checks Apply and Update for all pairs of the values and all choices of the fields of the managers me and k, with those of z.
func checkAll(t *testing.T, s api.Schema, values []api.Value, mine, theirs, others [][]string) {
	t.Helper()
	answers := map[api.Errno]int{}
	for _, live := range values {
		for _, config := range values {
			for i := range len(mine) * len(theirs) * len(others) {
				owned := map[string][]string{"me": mine[i%len(mine)], "k": theirs[i/len(mine)%len(theirs)], "z": others[i/len(mine)/len(theirs)]}
				c := call{s, live, expectOwners(owned), "me", config, false}
				answers[checkCase(t, c).e]++
				if want, got := expectUpdate(s, live, config, c.m, "me"), Update(s, live, config, c.m, "me"); !sameManagers(got, want) {
					t.Fatalf("%s = %q; want %q", updateText(s, live, config, c.m, "me"), got, want)
				}
			}
		}
	}
	if answers[api.OK] < 8000 || answers[api.ErrConflict] < 4000 || len(answers) != 2 {
		t.Errorf("the answers are %v", answers)
	}
}

// checkCase checks what Apply answers without and, if there are conflicts, with force.
func checkCase(t *testing.T, c call) answer {
	t.Helper()
	want := expect(t, c)
	got := answer{}
	got.v, got.m, got.conflicts, got.e = Apply(c.s, c.live, c.m, c.name, c.config, c.force)
	if !got.equals(want) {
		t.Fatalf("%v = %v; want %v", c, got, want)
	}
	if want.e == api.ErrConflict {
		checkCase(t, c.forced())
	}
	return want
}

func TestAllSmallMaps(t *testing.T) { // P11.1, P11.2
	s := structure(plain("a", whole()), plain("e", structure(plain("x", whole()))))
	values := []api.Value{}
	for _, a := range []api.Value{null(), number(1), number(2)} {
		for _, e := range []api.Value{null(), dict(), dict(field("x", number(1))), dict(field("x", number(2)))} {
			values = append(values, dict(field("a", a), field("e", e)))
		}
	}
	checkAll(t, s, values, subsets("a", "e", "e.x"), subsets("a", "e", "e.x"), [][]string{nil, set("a", "e.x")})
}

func TestAllSmallKeyedLists(t *testing.T) { // P11.1, P11.2
	s := structure(plain("p", keyedList(plain("n", whole()))))
	numbers := []api.Value{null(), number(1), number(2)}
	values := []api.Value{dict(), dict(field("p", list()))}
	for _, n := range numbers {
		x, y := keyed("x", field("n", n)), keyed("y", field("n", n))
		values = append(values, dict(field("p", list(x))), dict(field("p", list(y))))
		for _, n := range numbers[:2] {
			z := keyed("y", field("n", n))
			values = append(values, dict(field("p", list(x, z))), dict(field("p", list(z, x))))
		}
	}
	xk, xn, yk, yn := `p[k="x"].k`, `p[k="x"].n`, `p[k="y"].k`, `p[k="y"].n`
	checkAll(t, s, values, subsets("p", xk, xn, yn), [][]string{nil, set(xn), set("p", xk, yk)}, [][]string{nil})
}

var someNames = []string{"a", "a-", "b", "c", "k"}

var someTexts = []string{"", "x", "yy", "\n\"", "nine long"}

// maker makes schemas and values at random; odd is the chance of something that does not suit, in percent.
type maker struct {
	*rand.Rand
	odd int
}

func (m maker) strange() bool { return m.Intn(100) < m.odd }

// schema makes a valid schema of at most the given levels.
func (m maker) schema(levels int) api.Schema {
	if levels == 1 || m.Intn(6) == 0 {
		return []api.Schema{flag(), whole(), word(), structure()}[m.Intn(4)]
	}
	switch m.Intn(6) {
	case 0:
		return listOf(m.schema(levels - 1))
	case 1:
		return dictionary(m.schema(levels - 1))
	case 2, 3:
		if levels > 2 {
			return keyedList(m.structure(levels-1, someNames[:4]).Fields...)
		}
	}
	return m.structure(levels, someNames)
}

func (m maker) structure(levels int, names []string) api.Schema {
	s := structure()
	for _, name := range names {
		if m.Intn(4) > 0 {
			s.Fields = append(s.Fields, api.SchemaField{Name: name, Required: m.Intn(4) == 0, Immutable: m.Intn(4) == 0, S: m.schema(levels - 1)})
		}
	}
	return s
}

// root makes a schema of maps.
func (m maker) root(levels int) api.Schema {
	if m.Intn(4) == 0 {
		return dictionary(m.schema(levels - 1))
	}
	return m.structure(levels, someNames)
}

// value makes a value that fits the schema if nothing in it is odd.
func (m maker) value(s api.Schema) api.Value {
	if m.strange() {
		return []api.Value{null(), number(10), text("x"), list(), dict(), list(keyed("x"), dict())}[m.Intn(6)]
	}
	v := api.Value{Kind: s.Kind}
	switch s.Kind {
	case api.VBool:
		v.N = m.Intn(2)
	case api.VInt:
		v.N = m.Intn(3)
	case api.VString:
		v.S = someTexts[m.Intn(len(someTexts))]
	case api.VList:
		for _, i := range m.Perm(len(someTexts))[:m.Intn(4)] {
			one := m.value(s.Items[0])
			if s.Key != "" && !m.strange() {
				one = value.With(one, "k", text(someTexts[i]))
			}
			v.List = append(v.List, one)
		}
	case api.VMap:
		v.Fields = m.fields(s)
	}
	return v
}

func (m maker) fields(s api.Schema) []api.Field {
	var all []api.Field
	for _, name := range someNames {
		of, known := schema.At(s, []api.Step{step(name)})
		switch {
		case !known && !m.strange() || m.Intn(4) == 0:
		case m.Intn(10) == 0 || !known:
			all = append(all, field(name, null()))
		default:
			all = append(all, field(name, m.value(of)))
		}
	}
	return all
}

// near makes a value that agrees with v in many places.
func (m maker) near(s api.Schema, v api.Value) api.Value {
	if m.Intn(3) == 0 {
		return m.value(s)
	}
	w := m.value(s)
	for _, p := range leafPathsOf(s, v) {
		if m.Intn(3) > 0 {
			leaf, _ := path.Get(v, p)
			if after, e := path.Set(w, p, leaf); e == api.OK {
				w = after
			}
		}
	}
	return w
}

// leafPathsOf returns the paths of the leaves of v if it fits, and none otherwise.
func leafPathsOf(s api.Schema, v api.Value) [][]api.Step {
	if !expectFit(s, v) {
		return nil
	}
	return leafPaths(s, defaults.Prune(s, v))
}

// managers makes managers who own leaves of the values, and some other texts.
func (m maker) managers(s api.Schema, values ...api.Value) []api.Manager {
	texts := []string{"", "a", "k", `a[k="x"].k`, "\xff"}
	for _, v := range values {
		texts = append(texts, textsOf(leafPathsOf(s, v))...)
	}
	owned := map[string][]string{}
	for _, name := range []string{"aa", "b", "me", "z"} {
		for _, one := range texts {
			if m.Intn(4) == 0 {
				owned[name] = append(owned[name], one)
			}
		}
		owned[name] = fields.Union(owned[name], nil)
	}
	all := expectOwners(owned)
	if m.strange() {
		m.Shuffle(len(all), func(i, j int) { all[i], all[j] = all[j], all[i] })
	}
	return all
}

func TestAgreesWithTheChapter(t *testing.T) { // P11.1, P11.2
	r := rand.New(rand.NewSource(111))
	answers, kept := map[api.Errno]int{}, 0
	for range 1600 {
		m := maker{r, []int{0, 0, 0, 0, 2, 10}[r.Intn(6)]}
		s := maker{r, 0}.root(2 + r.Intn(5))
		live := m.value(s)
		config := m.near(s, live)
		c := call{s, live, m.managers(s, live, config), []string{"me", "me", "c", "zz"}[r.Intn(4)], config, r.Intn(2) == 0}
		want := expect(t, c)
		check(t, c, want)
		answers[want.e]++
		checkManagers(t, s, live, config, c.m, c.name, expectUpdate(s, live, config, c.m, c.name))
		if want.e == api.OK && value.Size(want.v) > value.Size(config)+2 && len(want.m) > 2 {
			kept++
		}
		if t.Failed() {
			t.FailNow()
		}
	}
	if answers[api.OK] < 600 || answers[api.ErrConflict] < 350 || answers[api.ErrInvalid] < 200 || kept < 200 {
		t.Errorf("the answers are %v, %d with parts of live", answers, kept)
	}
}

// state is a value with its managers.
type state struct {
	v api.Value
	m []api.Manager
}

// checkApplied checks what the chapter says of every success.
func checkApplied(t *testing.T, c call, after state, conflicts []api.Conflict) { // P11.4, P11.5
	t.Helper()
	live, config := defaults.Prune(c.s, c.live), defaults.Prune(c.s, c.config)
	for _, p := range leafPaths(c.s, config) {
		leaf, _ := path.Get(config, p)
		if !expectSatisfied(c.s, after.v, leaf, p) {
			t.Errorf("%v: the leaf %s is not satisfied by %s", c, textOf(p), valueText(after.v))
		}
	}
	if got := ownedBy(after.m, c.name); !slices.Equal(got, textsOf(leafPaths(c.s, config))) {
		t.Errorf("%v: %s owns %q", c, c.name, got)
	}
	for _, one := range conflicts {
		if slices.Contains(OwnersOf(after.m, one.Path), one.Manager) {
			t.Errorf("%v: %s still owns %s", c, one.Manager, one.Path)
		}
	}
	if expectFit(c.s, after.v) {
		check(t, call{c.s, after.v, after.m, c.name, c.config, false}, answer{v: after.v, m: after.m})
	}
	if len(conflicts) > 0 {
		return
	}
	for _, one := range c.m {
		if one.Name != c.name && !slices.Equal(ownedBy(after.m, one.Name), one.Fields) {
			t.Errorf("%v: %s owns %q", c, one.Name, ownedBy(after.m, one.Name))
		}
	}
	for _, p := range leafPaths(c.s, live) {
		leaf, _ := path.Get(live, p)
		owners := slices.DeleteFunc(OwnersOf(c.m, textOf(p)), func(one string) bool { return one == c.name })
		if len(owners) > 0 && !expectSatisfied(c.s, after.v, leaf, p) {
			t.Errorf("%v: the leaf %s of %q is lost in %s", c, textOf(p), owners, valueText(after.v))
		}
	}
}

// checkConflicts checks that each conflict names another manager who owns the path.
func checkConflicts(t *testing.T, c call, conflicts []api.Conflict) { // P11.5
	t.Helper()
	if len(conflicts) == 0 {
		t.Errorf("%v: ErrConflict without conflicts", c)
	}
	for i, one := range conflicts {
		if one.Manager == c.name || !slices.Contains(OwnersOf(c.m, one.Path), one.Manager) {
			t.Errorf("%v: the conflict %v", c, one)
		}
		if i > 0 && (conflicts[i-1].Path > one.Path || conflicts[i-1].Path == one.Path && conflicts[i-1].Manager >= one.Manager) {
			t.Errorf("%v: the conflicts %v", c, conflicts)
		}
	}
}

// withdraw applies the empty map for name, and checks that it gives up all fields and that those that nobody else owns are gone.
func withdraw(t *testing.T, s api.Schema, now state, name string) state { // P11.6
	t.Helper()
	c := call{s, now.v, now.m, name, dict(), false}
	got := run(t, c)
	if got.e != api.OK || len(ownedBy(got.m, name)) > 0 {
		t.Fatalf("%v = %v", c, got)
	}
	left := textsOf(leafPaths(s, got.v))
	for _, p := range leafPaths(s, defaults.Prune(s, now.v)) {
		leaf := textOf(p)
		alone := slices.Equal(OwnersOf(now.m, leaf), []string{name})
		// The key field stays as long as another leaf of its element does.
		last := len(p) - 1
		isKey := last > 0 && p[last-1].Kind == api.SKey && p[last-1].Name == p[last].Name
		_, more := path.Get(got.v, p[:last])
		if slices.Contains(left, leaf) == alone && !(isKey && more) {
			t.Errorf("%v: the leaf %s of %q in %s", c, leaf, OwnersOf(now.m, leaf), valueText(got.v))
		}
	}
	return state{got.v, got.m}
}

func TestHistories(t *testing.T) { // P11.2, P11.4, P11.5, P11.6
	r := rand.New(rand.NewSource(114))
	counts := map[string]int{}
	for range 150 {
		s := maker{r, 0}.root(2 + r.Intn(5))
		now := state{v: dict()}
		for range 12 {
			name := []string{"aa", "b", "c", "d"}[r.Intn(4)]
			now = oneStep(t, maker{r, 0}, s, now, name, counts)
			if t.Failed() {
				t.FailNow()
			}
			if !expectManagers(now.m) || !value.Valid(now.v) || len(schema.Check(s, now.v)) > 0 && !expectFit(s, now.v) {
				t.Fatalf("%s is managed by %q", valueText(now.v), now.m)
			}
		}
	}
	if counts["applied"] < 500 || counts["conflict"] < 200 || counts["forced"] < 100 || counts["updated"] < 200 || counts["withdrawn"] < 200 {
		t.Errorf("the steps are %v", counts)
	}
}

// oneStep applies, updates or withdraws something for name, and checks what is to be said of it.
func oneStep(t *testing.T, m maker, s api.Schema, now state, name string, counts map[string]int) state {
	t.Helper()
	next := m.near(s, now.v)
	switch m.Intn(6) {
	case 0:
		counts["withdrawn"]++
		return withdraw(t, s, now, name)
	case 1:
		counts["updated"]++
		owners := runUpdate(t, s, now.v, next, now.m, name)
		checkUpdated(t, s, now, next, owners, name)
		return state{next, owners}
	}
	c := call{s, now.v, now.m, name, next, false}
	got := run(t, c)
	if got.e == api.OK {
		counts["applied"]++
		checkApplied(t, c, state{got.v, got.m}, nil)
		return state{got.v, got.m}
	}
	counts["conflict"]++
	checkConflicts(t, c, got.conflicts)
	if m.Intn(2) == 0 {
		return now
	}
	forced := run(t, c.forced())
	if forced.e != api.OK || got.e != api.ErrConflict {
		t.Fatalf("%v = %v, and by force %v", c, got, forced)
	}
	counts["forced"]++
	checkApplied(t, c, state{forced.v, forced.m}, got.conflicts)
	return state{forced.v, forced.m}
}

// checkUpdated checks that the managers own leaves of the new value alone, and that the changed ones are those of name.
func checkUpdated(t *testing.T, s api.Schema, now state, next api.Value, owners []api.Manager, name string) { // P11.2
	t.Helper()
	before := defaults.Prune(s, now.v)
	after := defaults.Prune(s, next)
	leaves := textsOf(leafPaths(s, after))
	for _, one := range owners {
		if !slices.Equal(fields.Intersect(one.Fields, leaves), one.Fields) {
			t.Errorf("%s owns %q of %s", one.Name, one.Fields, valueText(next))
		}
	}
	for _, leaf := range leaves {
		p, _ := path.Parse(leaf)
		was, found := path.Get(before, p)
		is, _ := path.Get(after, p)
		want := OwnersOf(now.m, leaf)
		if !found || !same(was, is) {
			want = set(name)
		}
		if got := OwnersOf(owners, leaf); !slices.Equal(got, want) {
			t.Errorf("%s = %q: the owners of %s are %q; want %q", updateText(s, now.v, next, now.m, name), owners, leaf, got, want)
		}
	}
}

// anySchema makes a schema of which nothing is sure to be valid.
func anySchema(r *rand.Rand, levels int) api.Schema {
	s := api.Schema{Kind: r.Intn(8) - 1, Min: r.Intn(3), Max: r.Intn(3), Key: []string{"", "k"}[r.Intn(2)]}
	if r.Intn(2) == 0 {
		s = api.Schema{Kind: api.VMap}
	}
	if levels == 0 {
		return s
	}
	for range []int{0, 0, 1, 1, 2}[r.Intn(5)] {
		s.Items = append(s.Items, anySchema(r, levels-1))
	}
	for range r.Intn(4) {
		f := plain(append(someNames, "", "\xff")[r.Intn(7)], anySchema(r, levels-1))
		for range r.Intn(3) {
			f.Default = append(f.Default, anyValue(r, 2))
		}
		s.Fields = append(s.Fields, f)
	}
	return s
}

// anyValue makes a value of which nothing is sure to be valid: its fields may be in any order and doubled.
func anyValue(r *rand.Rand, levels int) api.Value {
	v := api.Value{Kind: r.Intn(8) - 1, N: r.Intn(3) - 1, S: someTexts[r.Intn(5)]}
	if r.Intn(2) == 0 {
		v = api.Value{Kind: api.VMap}
	}
	if levels == 0 {
		return v
	}
	for range r.Intn(3) {
		v.List = append(v.List, anyValue(r, levels-1))
	}
	for range r.Intn(4) {
		v.Fields = append(v.Fields, field(append(someNames, "", "\xff")[r.Intn(7)], anyValue(r, levels-1)))
	}
	return v
}

// anyManagers makes managers of which nothing is sure to be valid.
func anyManagers(r *rand.Rand) []api.Manager {
	all := []api.Manager{}
	for range []int{0, 1, 2, 3, 16, 17}[r.Intn(6)] {
		one := api.Manager{Name: []string{"", "a", "b", "c", letters(40), letters(41)}[r.Intn(6)]}
		for range r.Intn(4) {
			one.Fields = append(one.Fields, []string{"", "a", "b", `a[k="x"].k`, "\xff"}[r.Intn(5)])
		}
		all = append(all, one)
	}
	return all
}

func TestAnyArguments(t *testing.T) { // P1, P2, P11.1, P11.2, P11.3
	r := rand.New(rand.NewSource(2))
	refused := 0
	for i := range 6000 {
		s, live, config, m := anySchema(r, r.Intn(4)), anyValue(r, r.Intn(5)), anyValue(r, r.Intn(5)), anyManagers(r)
		if i%3 > 0 {
			s = several()
		}
		if i%3 == 1 {
			live, config = maker{r, 5}.value(s), maker{r, 5}.value(s)
		}
		c := call{s, live, m, []string{"", "a", "n", letters(41)}[r.Intn(4)], config, r.Intn(2) == 0}
		if expect(t, c).e == api.ErrInvalid {
			refused++
			checkRefused(t, s, live, m, c.name, config)
		} else {
			check(t, c, expect(t, c))
			checkManagers(t, s, live, config, m, c.name, expectUpdate(s, live, config, m, c.name))
		}
		checkOwners(t, m, "a", namesOf(slices.DeleteFunc(slices.Clone(m), func(one api.Manager) bool { return !slices.Contains(one.Fields, "a") }))...)
	}
	if refused < 4000 || refused > 5900 {
		t.Errorf("%d arguments are refused", refused)
	}
}
