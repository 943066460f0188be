package apply

import (
	"slices"
	"strings"
	"testing"

	"orchestrator/api"
)

func TestUpdate(t *testing.T) { // P11.2
	m := own(set("k", "a", "b", "c"), set("m", "a"), set("z", "c"))
	for _, c := range []struct {
		before, after api.Value
		m             []api.Manager
		name          string
		want          []api.Manager
	}{
		// New, changed, unchanged and gone leaves, owned by the manager, by others and by nobody.
		{dict(), ab(1, -1, -1), nil, "n", own(set("n", "a"))},
		{ab(1, -1, -1), ab(1, -1, -1), nil, "n", nil},
		{ab(1, -1, -1), ab(2, -1, -1), nil, "n", own(set("n", "a"))},
		{ab(1, -1, -1), ab(0, -1, -1), nil, "n", own(set("n", "a"))},
		{ab(1, -1, -1), dict(), nil, "n", nil},
		{dict(), ab(1, 2, -1), nil, "n", own(set("n", "a", "b"))},
		{ab(1, 2, 3), ab(1, 2, 3), m, "m", m},
		{ab(1, 2, 3), ab(1, 2, 3), m, "n", m},
		{ab(1, 2, 3), ab(5, 2, 3), m, "m", own(set("k", "b", "c"), set("m", "a"), set("z", "c"))},
		{ab(1, 2, 3), ab(5, 2, 3), m, "n", own(set("k", "b", "c"), set("n", "a"), set("z", "c"))},
		{ab(1, 2, 3), ab(1, 5, 3), m, "m", own(set("k", "a", "c"), set("m", "a", "b"), set("z", "c"))},
		{ab(1, 2, 3), ab(1, 5, 6), m, "m", own(set("k", "a"), set("m", "a", "b", "c"))},
		{ab(1, 2, 3), ab(4, 5, 6), m, "m", own(set("m", "a", "b", "c"))},
		{ab(1, 2, 3), ab(1, 2, -1), m, "m", own(set("k", "a", "b"), set("m", "a"))},
		{ab(1, 2, 3), ab(-1, 2, 3), m, "m", own(set("k", "b", "c"), set("z", "c"))},
		{ab(1, 2, 3), ab(-1, 2, 4), m, "m", own(set("k", "b"), set("m", "c"))},
		{ab(1, 2, 3), dict(), m, "m", nil},
		{ab(1, 2, 3), dict(), m, "n", nil},
		{dict(), ab(1, 2, 3), m, "n", own(set("n", "a", "b", "c"))},
		{dict(), dict(), m, "m", nil},
		// What they own although before does not have it counts if after has it.
		{ab(1, -1, -1), ab(1, 2, -1), m, "m", own(set("k", "a"), set("m", "a", "b"))},
		{ab(1, -1, -1), ab(1, -1, 3), m, "z", own(set("k", "a"), set("m", "a"), set("z", "c"))},
		// Texts that are no leaf of after.
		{ab(1, 2, -1), ab(1, 3, -1), own(set("k", "", "A", "a", "a.", "b", "c", "\xff"), set("m", "", "a", "d")), "m", own(set("k", "a"), set("m", "a", "b"))},
		{dict(), dict(), own(set("k", ""), set("m", "")), "m", nil},
		{ab(1, -1, -1), ab(1, -1, -1), own(set("k", "x"), set("m", "y")), "n", nil},
	} {
		checkManagers(t, abc(), c.before, c.after, c.m, c.name, c.want)
	}
}

func TestChangedLeaves(t *testing.T) { // P11.2
	s := several()
	for _, c := range []struct {
		before, after    api.Value
		same, new, other []string
	}{
		{dict(field("a", null())), dict(field("a", number(0))), nil, set("a"), nil},
		{dict(field("a", number(1)), field("b", null())), dict(field("a", number(1)), field("c", null())), set("a"), nil, set("b", "c")},
		{dict(field("c", text("x"))), dict(field("c", text("X"))), nil, set("c"), nil},
		// Empty maps and keyed lists are leaves, and are none any more with something in them.
		{dict(), dict(field("e", dict())), nil, set("e"), nil},
		{dict(field("e", dict())), dict(field("e", dict())), set("e"), nil, nil},
		{dict(field("e", dict(field("x", number(1))))), dict(field("e", dict())), nil, set("e"), set("e.x")},
		{dict(field("e", dict())), dict(field("e", dict(field("x", number(1))))), nil, set("e.x"), set("e")},
		{dict(field("e", dict(field("x", null())))), dict(field("e", dict(field("r", null())))), set("e"), nil, set("e.x", "e.r")},
		{dict(field("e", dict(field("x", number(1)), field("y", dict())))), dict(field("e", dict(field("r", number(1)), field("x", number(1)), field("y", dict(field("z", number(1))))))), set("e.x"), set("e.r", "e.y.z"), set("e", "e.y")},
		{dict(field("p", list())), dict(field("p", list())), set("p"), nil, nil},
		{dict(field("p", list(keyed("x")))), dict(field("p", list())), nil, set("p"), set(`p[k="x"].k`)},
		{dict(field("p", list())), dict(field("p", list(keyed("x")))), nil, set(`p[k="x"].k`), set("p")},
		{dict(field("d", dict(field("i", dict(field("j", number(1)))), field("j", dict())))), dict(field("d", dict(field("i", dict(field("j", number(2)))), field("j", dict()), field("k", dict())))), set("d.j"), set("d.i.j", "d.k"), set("d", "d.i")},
		// Lists without keys change as a whole, keyed ones by their elements, in whatever order they stand.
		{dict(field("l", list(number(1), number(2)))), dict(field("l", list(number(2), number(1)))), nil, set("l"), set("l[0]", "l[1]")},
		{dict(field("l", list(number(1)))), dict(field("l", list(number(1)))), set("l"), nil, nil},
		{dict(field("l", list(number(1)))), dict(field("l", list())), nil, set("l"), nil},
		{dict(field("m", list(dict(field("x", null()))))), dict(field("m", list(dict()))), set("m"), nil, nil},
		{dict(field("m", list(dict(field("y", list(keyed("x"), keyed("y"))))))), dict(field("m", list(dict(field("y", list(keyed("y"), keyed("x"))))))), nil, set("m"), nil},
		{dict(field("p", list(keyed("x", field("n", number(1))), keyed("y", field("n", number(2)))))), dict(field("p", list(keyed("y", field("n", number(2))), keyed("z"), keyed("x", field("n", number(3)))))), set(`p[k="x"].k`, `p[k="y"].k`, `p[k="y"].n`), set(`p[k="x"].n`, `p[k="z"].k`), set("p", `p[k="x"]`, "p[0].k")},
		{dict(field("p", list(keyed("x", field("n", number(1)))))), dict(field("p", list(keyed("y", field("n", number(1)))))), nil, set(`p[k="y"].k`, `p[k="y"].n`), set(`p[k="x"].k`, `p[k="x"].n`)},
		{dict(field("p", list(keyed("\"\\\n", field("n", number(1)))))), dict(field("p", list(keyed("\"\\\n", field("n", number(2)))))), set(`p[k="\"\\\n"].k`), set(`p[k="\"\\\n"].n`), nil},
		{dict(field("p", list(keyed("x", field("q", list(keyed("y", field("n", number(1))))))))), dict(field("p", list(keyed("x", field("q", list(keyed("z"), keyed("y", field("n", number(2))))))))), set(`p[k="x"].k`, `p[k="x"].q[k="y"].k`), set(`p[k="x"].q[k="y"].n`, `p[k="x"].q[k="z"].k`), set(`p[k="x"].q`)},
	} {
		all := slices.Sorted(slices.Values(slices.Concat(c.same, c.new, c.other)))
		slices.Sort(c.same)
		slices.Sort(c.new)
		kept := slices.Sorted(slices.Values(slices.Concat(c.same, c.new)))
		// Nobody owns anything; the manager owns all, another one does, both do.
		expect := func(m []api.Manager, name string, mine, others []string) {
			t.Helper()
			want := slices.DeleteFunc([]api.Manager{{Name: name, Fields: mine}, {Name: "other", Fields: others}}, func(one api.Manager) bool { return len(one.Fields) == 0 })
			slices.SortFunc(want, func(a, b api.Manager) int { return strings.Compare(a.Name, b.Name) })
			checkManagers(t, s, c.before, c.after, m, name, want)
		}
		expect(nil, "me", c.new, nil)
		expect([]api.Manager{{Name: "me", Fields: all}}, "me", kept, nil)
		expect([]api.Manager{{Name: "other", Fields: all}}, "me", c.new, c.same)
		expect([]api.Manager{{Name: "other", Fields: all}}, "zz", c.new, c.same)
		expect([]api.Manager{{Name: "me", Fields: all}, {Name: "other", Fields: all}}, "me", kept, c.same)
	}
}

func TestOwnersOf(t *testing.T) { // P11.3
	m := own(set("a", "x", "y"), set("b", "", "y"), set("c", "X", "x", "xx", "z"), set("d", "a.b", `p[k="x"].k`, "\xff"))
	checkOwners(t, m, "x", "a", "c")
	checkOwners(t, m, "y", "a", "b")
	checkOwners(t, m, "z", "c")
	checkOwners(t, m, "", "b")
	checkOwners(t, m, "X", "c")
	checkOwners(t, m, "a.b", "d")
	checkOwners(t, m, `p[k="x"].k`, "d")
	checkOwners(t, m, "\xff", "d")
	// Only the very text counts.
	for _, path := range []string{"a", "a.", "b", "a.b.c", "a.b ", " x", "yy", `p[k="x"]`, "p", "xxx", "w", "zz", strings.Repeat("x", 100000)} {
		checkOwners(t, m, path)
	}
	for _, path := range []string{"", "x"} {
		checkOwners(t, nil, path)
		checkOwners(t, []api.Manager{}, path)
	}
	// Of managers that are not valid too, in the order in which they stand.
	checkOwners(t, own(set("z", "b", "a"), set("", "c", "a", "a"), set("z", "b"), set("a"), set("a", "a", "")), "a", "z", "", "a")
	checkOwners(t, own(set("z", "b", "a"), set("z", "b", "b"), set("y")), "b", "z", "z")
	checkOwners(t, crowd(40, "q"), "q", namesOf(crowd(40))...)
	for _, m := range soundManagers() {
		for i, one := range m {
			if got := OwnersOf(m, one.Fields[len(one.Fields)-1]); !slices.Contains(got, one.Name) || !slices.IsSorted(got) {
				t.Errorf("the owners of the last field of manager %d are %q", i, got)
			}
		}
	}
}

func namesOf(m []api.Manager) []string {
	var names []string
	for _, one := range m {
		names = append(names, one.Name)
	}
	return names
}
