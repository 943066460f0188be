package schema

import (
	"slices"
	"testing"

	"orchestrator/api"
)

// checkChanges checks which immutable fields Changes finds changed, and that it leaves its arguments.
func checkChanges(t *testing.T, s api.Schema, before, after api.Value, paths ...string) {
	t.Helper()
	want := []api.FieldError{}
	for _, one := range paths {
		want = append(want, api.FieldError{Path: one, Code: api.ErrImmutable})
	}
	copyS, copyB, copyA := copiedSchema(s), copied(before), copied(after)
	if got := Changes(s, before, after); !slices.Equal(got, want) {
		t.Errorf("Changes(%+v, %+v, %+v) = %v; want %v", s, before, after, got, want)
	}
	if !sameSchema(s, copyS) || !same(before, copyB) || !same(after, copyA) {
		t.Fatalf("Changes changed %+v, %+v, %+v to %+v, %+v, %+v", copyS, copyB, copyA, s, before, after)
	}
}

// severalValues are valid values of all kinds, all different.
func severalValues() []api.Value {
	return []api.Value{
		truth(0), truth(1), number(0), number(1), number(-1), text(""), text("0"), text("x"), list(), list(api.Value{}), list(number(0)), list(number(0), number(1)), list(number(1), number(0)),
		fields(), fields(field("a", api.Value{})), fields(field("a", number(0))), fields(field("a", number(1))), fields(field("b", number(0))), fields(field("a", number(0)), field("b", number(0))),
	}
}

func TestChangesOfOneField(t *testing.T) { // P7.3
	// Whether a value suits the schema of an immutable field does not matter: it is compared, not entered.
	for _, below := range []api.Schema{flag(), whole(0, 5), word(0, 5), listOf(0, 5, whole(0, 5)), dictionary(whole(0, 5)), structure(plain("a", whole(0, 5))), structure(fixed("a", whole(0, 5)))} {
		s := structure(fixed("f", below), plain("g", below))
		for i, a := range severalValues() {
			had := fields(field("f", a))
			checkChanges(t, s, had, copied(had))
			checkChanges(t, s, had, fields(), "f")
			checkChanges(t, s, had, fields(field("f", api.Value{})), "f")
			checkChanges(t, s, fields(), had)
			checkChanges(t, s, fields(field("f", api.Value{})), had)
			checkChanges(t, s, had, fields(field("f", a), field("g", a)))
			checkChanges(t, s, fields(field("f", a), field("g", a)), had)
			checkChanges(t, s, had, fields(field("g", a)), "f")
			for j, b := range severalValues() {
				if i != j {
					checkChanges(t, s, had, fields(field("f", b)), "f")
					checkChanges(t, s, had, fields(field("f", a), field("g", b)))
				}
			}
		}
		checkChanges(t, s, fields(), fields())
		checkChanges(t, s, fields(field("f", api.Value{})), fields())
		checkChanges(t, s, fields(), fields(field("f", api.Value{})))
		checkChanges(t, s, fields(field("f", api.Value{})), fields(field("f", api.Value{})))
	}
}

func TestChangesOfInvalidArguments(t *testing.T) { // P7.3
	s := structure(fixed("f", whole(0, 5)))
	before, after := fields(field("f", number(1))), fields(field("f", number(2)))
	checkChanges(t, s, before, after, "f")
	for _, odd := range oddSchemas() {
		checkChanges(t, odd, before, after)
		checkChanges(t, structure(fixed("f", whole(0, 5)), plain("g", odd)), before, after)
	}
	for _, odd := range oddValues() {
		checkChanges(t, s, odd, after)
		checkChanges(t, s, before, odd)
		checkChanges(t, s, odd, odd)
		checkChanges(t, s, fields(field("f", number(1)), field("g", odd)), after)
		checkChanges(t, s, before, fields(field("f", number(2)), field("g", odd)))
		checkChanges(t, s, fields(field("f", odd)), after)
		checkChanges(t, s, before, fields(field("f", odd)))
	}
}

func TestChangesBelowFields(t *testing.T) { // P7.3
	leaf := structure(fixed("f", whole(0, 5)), plain("n", whole(0, 5)))
	old := fields(field("f", number(1)), field("n", number(1)))
	other := fields(field("f", number(2)), field("n", number(2)))
	s := structure(plain("a", leaf), plain("b", structure(plain("c", leaf))))
	in := func(a, c api.Value) api.Value {
		return fields(field("a", a), field("b", fields(field("c", c))))
	}
	checkChanges(t, s, in(old, old), in(other, other), "a.f", "b.c.f")
	checkChanges(t, s, in(old, old), in(old, other), "b.c.f")
	checkChanges(t, s, in(old, old), in(other, old), "a.f")
	checkChanges(t, s, in(old, old), in(old, old))
	checkChanges(t, s, in(old, old), in(fields(), fields()), "a.f", "b.c.f")
	checkChanges(t, s, in(fields(), fields()), in(old, old))
	// What is missing as a whole, in one or the other, is not entered.
	checkChanges(t, s, in(old, old), fields())
	checkChanges(t, s, in(old, old), fields(field("b", fields())))
	checkChanges(t, s, in(old, old), in(api.Value{}, other), "b.c.f")
	checkChanges(t, s, in(old, api.Value{}), in(other, other), "a.f")
	checkChanges(t, s, fields(field("b", api.Value{})), in(old, other))
	checkChanges(t, s, in(old, old), fields(field("a", other), field("b", api.Value{})), "a.f")
	checkChanges(t, s, fields(), in(old, other))
	// Fields that the schema does not have are not looked at.
	checkChanges(t, s, fields(field("x", old)), fields(field("x", other)))
	checkChanges(t, s, fields(field("f", number(1))), fields(field("f", number(2))))
	// Neither is what an immutable field holds, once it is told.
	whole := structure(fixed("a", leaf), fixed("b", structure(plain("c", leaf))))
	checkChanges(t, whole, in(old, old), in(other, other), "a", "b")
	checkChanges(t, whole, in(old, old), in(old, other), "b")
	checkChanges(t, whole, in(old, old), in(old, old))
	checkChanges(t, whole, in(old, old), fields(), "a", "b")
}

func TestChangesInDictionaries(t *testing.T) { // P7.3
	leaf := structure(fixed("f", whole(0, 5)))
	old, other := fields(field("f", number(1))), fields(field("f", number(2)))
	s := dictionary(leaf)
	checkChanges(t, s, fields(field("a", old), field("b", old), field("c", old)), fields(field("a", other), field("b", old), field("c", other)), "a.f", "c.f")
	checkChanges(t, s, fields(field("a", old), field("c", old)), fields(field("b", other), field("c", other)), "c.f")
	checkChanges(t, s, fields(field("a", old), field("b", api.Value{}), field("c", old)), fields(field("a", api.Value{}), field("b", other), field("c", fields())), "c.f")
	checkChanges(t, s, fields(field("a", old)), fields())
	checkChanges(t, s, fields(), fields(field("a", old)))
	checkChanges(t, dictionary(s), fields(field("x", fields(field("a", old)))), fields(field("x", fields(field("a", other)))), "x.a.f")
	checkChanges(t, dictionary(whole(0, 5)), fields(field("a", number(1))), fields(field("a", number(2))))
	checkChanges(t, structure(plain("d", s), fixed("e", s)), fields(field("d", fields(field("a", old))), field("e", fields(field("a", old)))), fields(field("d", fields(field("a", other))), field("e", fields(field("a", other)))), "d.a.f", "e")
}

func TestChangesInKeyedLists(t *testing.T) { // P7.3
	s := keyedList("k", entry(fixed("n", whole(0, 9))))
	x, y, z := keyed("x", 1), keyed("y", 2), keyed("z", 3)
	checkChanges(t, s, list(x, y, z), list(x, y, z))
	checkChanges(t, s, list(x, y, z), list(z, x, y))
	checkChanges(t, s, list(x, y, z), list(z))
	checkChanges(t, s, list(x, y, z), list())
	checkChanges(t, s, list(), list(x, y, z))
	checkChanges(t, s, list(x), list(y))
	checkChanges(t, s, list(x, y, z), list(keyed("x", 0), keyed("y", 0), keyed("z", 0)), `[k="x"].n`, `[k="y"].n`, `[k="z"].n`)
	checkChanges(t, s, list(z, y, x), list(keyed("y", 0), x, keyed("z", 0)), `[k="y"].n`, `[k="z"].n`)
	checkChanges(t, s, list(x, y), list(fields(field("k", text("x"))), fields(field("k", text("y")), field("n", api.Value{}))), `[k="x"].n`, `[k="y"].n`)
	checkChanges(t, s, list(keyed("", 1)), list(keyed("", 2)), `[k=""].n`)
	checkChanges(t, s, list(keyed("a\n\"\\", 1)), list(keyed("a\n\"\\", 2)), `[k="a\n\"\\"].n`)
	// Of the elements with one key the first counts, in before and in after.
	checkChanges(t, s, list(x, keyed("x", 5)), list(x))
	checkChanges(t, s, list(keyed("x", 5), x), list(x), `[k="x"].n`)
	checkChanges(t, s, list(x), list(x, keyed("x", 5)))
	checkChanges(t, s, list(x), list(keyed("x", 5), x), `[k="x"].n`)
	checkChanges(t, s, list(x, keyed("x", 5)), list(keyed("x", 5), x), `[k="x"].n`)
	checkChanges(t, s, list(keyed("x", 5), y, x, keyed("y", 7)), list(keyed("y", 7), keyed("x", 5), y, x), `[k="y"].n`)
	bare := fields(field("k", text("x")))
	checkChanges(t, s, list(bare, x), list(keyed("x", 5)))
	checkChanges(t, s, list(x), list(bare, x), `[k="x"].n`)
}

func TestChangesOfElementsWithoutAKey(t *testing.T) { // P7.3
	s := keyedList("k", entry(fixed("n", whole(0, 9))))
	x := keyed("x", 1)
	others := []api.Value{{}, number(1), text("x"), list(x), fields(), fields(field("n", number(1))), fields(field("k", api.Value{}), field("n", number(1))), fields(field("k", number(0)), field("n", number(1))), fields(field("k", list(text("x"))), field("n", number(1))), fields(field("k", x), field("n", number(1)))}
	for _, one := range others {
		changed := copied(one)
		for i := range changed.Fields {
			if changed.Fields[i].Name == "n" {
				changed.Fields[i].V = number(2)
			}
		}
		checkChanges(t, s, list(one), list(changed))
		checkChanges(t, s, list(one), list(keyed("", 2)))
		checkChanges(t, s, list(keyed("", 2)), list(one))
		checkChanges(t, s, list(one, x), list(changed, keyed("x", 2)), `[k="x"].n`)
		checkChanges(t, s, list(one, keyed("", 1)), list(one, keyed("", 2)), `[k=""].n`)
	}
	checkChanges(t, s, list(append(slices.Clone(others), x)...), list(append([]api.Value{keyed("x", 2)}, others...)...), `[k="x"].n`)
	// Lists without a key are not entered, though their elements have fields that would be keys.
	none := listOf(0, 9, entry(fixed("n", whole(0, 9))))
	checkChanges(t, none, list(x), list(keyed("x", 2)))
	checkChanges(t, structure(plain("l", none), fixed("m", none)), fields(field("l", list(x)), field("m", list(x))), fields(field("l", list(keyed("x", 2))), field("m", list(keyed("x", 2)))), "m")
	checkChanges(t, structure(plain("l", listOf(0, 9, s))), fields(field("l", list(list(x)))), fields(field("l", list(list(keyed("x", 2))))))
}

func TestChangesOfOtherKinds(t *testing.T) { // P7.3
	leaf := structure(fixed("k", word(0, 9)), fixed("n", whole(0, 9)))
	for _, s := range []api.Schema{flag(), whole(0, 9), word(0, 9), listOf(0, 9, leaf), keyedList("k", entry(fixed("n", whole(0, 9)))), dictionary(leaf), leaf} {
		for i, a := range append(severalValues(), keyed("x", 1), list(keyed("x", 1))) {
			for j, b := range append(severalValues(), keyed("x", 1), list(keyed("x", 1))) {
				if i != j && (a.Kind != s.Kind || b.Kind != s.Kind) {
					checkChanges(t, s, a, b)
					checkChanges(t, structure(plain("a", s), fixed("b", s)), fields(field("a", a), field("b", a)), fields(field("a", b), field("b", b)), "b")
					checkChanges(t, dictionary(s), fields(field("a", a)), fields(field("a", b)))
				}
			}
		}
	}
	// A value that does not suit its schema is entered if it has its kind.
	s := structure(fixed("f", whole(0, 5)), required("z", flag()))
	checkChanges(t, s, fields(field("e", truth(1)), field("f", text("a"))), fields(field("f", text("b"))), "f")
}

func TestChangesAreSorted(t *testing.T) { // P7.3
	// By their texts: a dot and a slash are less than a letter, a bracket is greater than a capital letter, and a key stands in the order of its escapes.
	in := structure(fixed("n", whole(0, 9)))
	names := []string{"a", "a-", "a/", "a0", "aA", "a_", "aa", "b"}
	s, before, after := structure(), fields(), fields()
	for _, one := range names {
		s.Fields = append(s.Fields, plain(one, in))
		before.Fields = append(before.Fields, field(one, fields(field("n", number(1)))))
		after.Fields = append(after.Fields, field(one, fields(field("n", number(2)))))
	}
	checkChanges(t, s, before, after, "a-.n", "a.n", "a/.n", "a0.n", "aA.n", "a_.n", "aa.n", "b.n")
	items := keyedList("k", entry(fixed("n", whole(0, 9))))
	s = structure(plain("a", items), fixed("aA", flag()), fixed("a_", flag()), fixed("aa", flag()))
	old, other := list(), list()
	for _, one := range []string{"b", "10", "", "\\", "\"", "\n", "9", "Z", "!", "#"} {
		old.List, other.List = append(old.List, keyed(one, 1)), append([]api.Value{keyed(one, 2)}, other.List...)
	}
	before = fields(field("a", old), field("aA", truth(1)), field("a_", truth(1)), field("aa", truth(1)))
	after = fields(field("a", other))
	checkChanges(t, s, before, after, "aA", `a[k="!"].n`, `a[k=""].n`, `a[k="#"].n`, `a[k="10"].n`, `a[k="9"].n`, `a[k="Z"].n`, `a[k="\""].n`, `a[k="\\"].n`, `a[k="\n"].n`, `a[k="b"].n`, "a_", "aa")
}

func TestChangesAtTheLimits(t *testing.T) { // P7.3
	wide, old, other := structure(), fields(), fields()
	paths := words(64)
	for _, one := range paths {
		wide.Fields = append(wide.Fields, fixed(one, whole(0, 9)))
		old.Fields = append(old.Fields, field(one, number(1)))
		other.Fields = append(other.Fields, field(one, number(2)))
	}
	checkChanges(t, wide, old, other, paths...)
	s, before, after, path := structure(fixed("z", flag())), fields(field("z", truth(0))), fields(field("z", truth(1))), "z"
	for range 10 {
		s, before, after, path = structure(plain("a", s)), fields(field("a", before)), fields(field("a", after)), "a."+path
	}
	checkChanges(t, s, before, after, path)
	checkChanges(t, s, before, nestedEmpty(11), path)
	checkChanges(t, s, before, nestedEmpty(10))
}
