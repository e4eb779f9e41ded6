package kernel_test

import (
	"reflect"
	"slices"
	"testing"

	"rosetta/api"
	"rosetta/kernel"
)

// startAt tells a grammar with another Start.
func startAt(g api.Grammar, name string) api.Grammar {
	g.Start = slices.Index(g.Sorts, name)
	return g
}

// checkTrim asks that a grammar trimmed is another one; the productions that stay are told by their From, which is their old number.
func checkTrim(t *testing.T, g, want api.Grammar, from ...int) {
	t.Helper()
	got, e := kernel.Trim(g)
	for i := range want.Prods {
		want.Prods[i].From = from[i]
	}
	if e != api.OK || !kernel.Same(got, want) {
		t.Errorf("P6.3: Trim(%s): %+v %v, want %+v", brief(kernel.Text(g)), got, e, want)
	}
	if e, n := kernel.Well(got); e != api.OK {
		t.Errorf("P6.5: Well(%+v): %v %d", got, e, n)
	}
	if again, e := kernel.Trim(got); e != api.OK || !kernel.Same(again, got) {
		t.Errorf("P6.5: Trim again: %+v %v, want %+v", again, e, got)
	}
}

func checkTrimRefused(t *testing.T, g api.Grammar, want api.Errno) {
	t.Helper()
	if got, e := kernel.Trim(g); e != want || !reflect.DeepEqual(got, api.Grammar{}) {
		t.Errorf("P6.3: Trim(%s): %+v %v, want %v", brief(g), got, e, want)
	}
}

func TestTrim(t *testing.T) {
	checkTrim(t, example(), read("S A", "S = A", "S = [x] S", "A = [a]"), 0, 1, 2)
	checkTrim(t, read("S", "S ="), read("S", "S ="), 0)
	checkTrim(t, read("A S", "S =", "A = [a]"), read("A", "A = [a]"), 1) // the Start is A
	// What is not productive goes, ahead of, between and behind what stays; and the productions that have it.
	checkTrim(t, startAt(read("D S E A F", "S = A", "S = D", "E = E", "S = A E A", "A = [a] S", "D = D [a]", "A = F [a]", "F = S F", "A ="), "S"),
		read("S A", "S = A", "A = [a] S", "A ="), 0, 4, 8)
	// What is not reached goes, though it is productive.
	checkTrim(t, startAt(read("B S C A", "B = S", "S = A", "C = [c]", "A = S", "B = C", "A = [a]"), "S"),
		read("S A", "S = A", "A = S", "A = [a]"), 1, 3, 5)
	// What is reached only through what goes: A by a production with the dead D, B by A.
	checkTrim(t, read("S A B D", "S = A D", "S = [s]", "A = B", "B = [b]", "D = D"), read("S", "S = [s]"), 1)
	checkTrim(t, read("S D A", "S = D", "S =", "D = A D", "A = [a]"), read("S", "S ="), 1)
	checkTrim(t, read("S D A", "S = D", "S = A", "D = A D", "A = [a]", "A = D A"), read("S A", "S = A", "A = [a]"), 1, 3)
	// What is rejected makes nothing productive, and stays with its sort.
	checkTrim(t, read("S A R", "S = [r] : reject", "S = R", "S = A", "R = [a] : reject", "R = : reject", "A = [a] [b] : reject", "A = [a] : avoid"),
		read("S A", "S = [r] : reject", "S = A", "A = [a] [b] : reject", "A = [a] : avoid"), 0, 2, 5, 6)
	// All fields of what stays are kept.
	checkTrim(t, startAt(read("D S A", "S.C = A [x-z] S : prefer", "D = S", "S = A : inject avoid", "D.C = D", "A = : gap", "S.D ="), "S"),
		read("S A", "S.C = A [x-z] S : prefer", "S = A : inject avoid", "A = : gap", "S.D ="), 0, 2, 4, 5)
}

func TestTrimRefused(t *testing.T) {
	checkTrimRefused(t, read("S"), api.ErrDead)
	checkTrimRefused(t, read("S A", "A = [a]"), api.ErrDead)
	checkTrimRefused(t, read("S", "S = S"), api.ErrDead)
	checkTrimRefused(t, read("S A", "S = A [s]", "A = S", "A = A A"), api.ErrDead)
	checkTrimRefused(t, read("S A", "S = [a] : reject", "A = [a]"), api.ErrDead)
	checkTrimRefused(t, startAt(example(), "B"), api.ErrDead)
	for _, bad := range refused() {
		checkTrimRefused(t, bad, api.ErrGrammar)
	}
	dead := read("S A", "S = S", "A = [a]")
	dead.Follow = []api.Follow{{Sort: 1}}
	checkTrimRefused(t, dead, api.ErrGrammar) // ahead of ErrDead
}

// What is well formed stays as it is.
func TestTrimWell(t *testing.T) {
	well := read("S A <gap>", "S.C = A <gap> S : prefer", "S = A : inject avoid", "A = [a] : lexical", "<gap> = : gap", "A = [^a] : reject", "S.D =", "<gap> = [x] <gap>",
		"forbid 0 3 1", "forbid 0 1 2", "forbid 1 1 2", "follow <gap> [x]", "follow S [^x]")
	for i, from := range []int{7, -1, 0, 7, 12, 1 << 40, -1} {
		well.Prods[i].From = from
	}
	if got, e := kernel.Trim(well); e != api.OK || !kernel.Same(got, well) {
		t.Errorf("P6.5: Trim: %+v %v, want %+v", got, e, well)
	}
	// Also one that is as full as can be.
	full := api.Grammar{Sorts: named(api.MaxProds)}
	for i := range api.MaxProds {
		full.Prods = append(full.Prods, api.Prod{Left: i, Right: []api.Sym{set("a"), sort(max(i-1, 0))}[:min(i, 1)+1]})
	}
	full.Prods[0].Right = nil
	full.Start = api.MaxProds - 1
	for i := range api.MaxProds - 1 {
		full.Forbid = append(full.Forbid, api.Forbid{Parent: i + 1, At: 2, Child: i})
		full.Follow = append(full.Follow, api.Follow{Sort: api.MaxProds - 1 - i, Not: readSet("[a]")})
	}
	checkWell(t, full, api.OK, 0)
	if got, e := kernel.Trim(full); e != api.OK || !kernel.Same(got, full) {
		t.Errorf("P6.5: Trim of a full one: %s %v", brief(got), e)
	}
	full.Start = 0
	want := api.Grammar{Sorts: full.Sorts[:1], Prods: []api.Prod{{}}}
	if got, e := kernel.Trim(full); e != api.OK || !kernel.Same(got, want) {
		t.Errorf("P6.3: Trim of a full one to its first sort: %s %v", brief(got), e)
	}
}

// Forbids and Follows of what goes go; those that stay get new numbers, and keep their order.
func TestTrimForbidFollow(t *testing.T) {
	g := startAt(read("D S B A", "D = S D", "S = D", "S = S A S", "B = S", "A = [a]", "S = A", "S = A D S", "A =", "B = [b]",
		"forbid 5 1 7", "forbid 0 1 2", "forbid 2 3 2", "forbid 2 3 1", "forbid 1 1 0", "forbid 3 1 2", "forbid 2 1 5", "forbid 6 3 2", "forbid 2 1 6", "forbid 2 2 4",
		"follow A [x]", "follow D [a]", "follow S [y]", "follow B [z]"), "S")
	checkTrim(t, g, read("S A", "S = S A S", "A = [a]", "S = A", "A =",
		"forbid 2 1 3", "forbid 0 3 0", "forbid 0 1 2", "forbid 0 2 1", "follow A [x]", "follow S [y]"), 2, 4, 5, 7)
	// What is forbidden is not what makes a tree: it counts for nothing else.
	checkTrim(t, read("S A", "S = A", "A = [a]", "forbid 0 1 1", "follow A [^]"), read("S A", "S = A", "A = [a]", "forbid 0 1 1", "follow A [^]"), 0, 1)
}
