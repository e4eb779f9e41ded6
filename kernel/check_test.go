package kernel_test

import (
	"math"
	"reflect"
	"slices"
	"strconv"
	"strings"
	"testing"

	"rosetta/api"
	"rosetta/kernel"
)

// whole is a grammar that may be, with a production of each role and something of all else.
func whole() api.Grammar {
	return read("S A B",
		"S.C = A [x] S : prefer", "S = A : inject avoid", "A = [a] : lexical", "B = [b] [c] : literal", "B = : none", "B = A : some", "B = S : one",
		"B = B B S : more", "A = : gap", "A = B : layout", "S = A A A : start", "A = [ab] [c] : reject", "S.D =", "S =", "A = : reject",
		"forbid 0 3 0", "forbid 0 1 2", "forbid 0 3 1", "forbid 7 1 7", "forbid 7 2 7", "follow S [a]", "follow A [^a]")
}

// checkRefusals asks that each call refuses a grammar that may not be, ahead of all else, and tells nothing beside; and that none refuses one that may be.
func checkRefusals(t *testing.T, what string, g api.Grammar, mayBe bool) {
	t.Helper()
	want := api.ErrGrammar
	if mayBe {
		want = api.OK
	}
	if e := kernel.Check(g); e != want {
		t.Errorf("P6.1: Check, %s: %v, want %v", what, e, want)
	}
	well, n := kernel.Well(g)
	trimmed, trim := kernel.Trim(g)
	l, of := kernel.Of(g, 0)
	_, beyond := kernel.Of(g, -1)
	no, deep := kernel.CheckTree(g, api.Tree{Prod: -1}), kernel.CheckTree(g, tooDeep())
	if mayBe {
		if well == api.ErrGrammar || trim == api.ErrGrammar || of != api.OK || beyond != api.ErrRange || no != api.ErrTree || deep != api.ErrLong {
			t.Errorf("P6.1: %s: %v %v %v %v %v %v", what, well, trim, of, beyond, no, deep)
		}
		return
	}
	for call, e := range []api.Errno{well, trim, of, beyond, no, deep} {
		if e != api.ErrGrammar {
			t.Errorf("P6.1: %s: call %d: %v", what, call, e)
		}
	}
	if n != 0 || !reflect.DeepEqual(trimmed, api.Grammar{}) || l != nil || kernel.Text(g) != "" {
		t.Errorf("P6.1: %s: beside an error: %d %s %v %q", what, n, brief(trimmed), l, brief(kernel.Text(g)))
	}
}

// edge is a change of whole, and whether it may be then.
type edge struct {
	what  string
	mayBe bool
	bend  func(g *api.Grammar)
}

// numbersFrom tells edges of a number that may be from one to another.
func numbersFrom(what string, least, most int, put func(g *api.Grammar, n int)) []edge {
	var out []edge
	for _, n := range []int{math.MinInt, -1000, least - 1, least, most, most + 1, 1 << 32, math.MaxInt} {
		out = append(out, edge{what + " " + strconv.Itoa(n), least <= n && n <= most, func(g *api.Grammar) { put(g, n) }})
	}
	return out
}

// countsUpTo tells edges of how many there are of something.
func countsUpTo(what string, most int, put func(g *api.Grammar, count int)) []edge {
	var out []edge
	for _, n := range []int{most - 1, most, most + 1, 2 * most} {
		out = append(out, edge{strconv.Itoa(n) + " " + what, n <= most, func(g *api.Grammar) { put(g, n) }})
	}
	return out
}

// named tells so many names, each unlike the others.
func named(count int) []string {
	var out []string
	for i := range count {
		out = append(out, "T"+strconv.Itoa(i))
	}
	return out
}

func sortEdges() []edge {
	name := func(g *api.Grammar, length int) { g.Sorts[1] = strings.Repeat("n", length) }
	return slices.Concat([]edge{
		{"as it is", true, func(*api.Grammar) {}},
		{"nothing", false, func(g *api.Grammar) { *g = api.Grammar{} }},
		{"no sort", false, func(g *api.Grammar) { g.Sorts = nil }},
		{"no sort and nothing of one", false, func(g *api.Grammar) { *g = api.Grammar{Sorts: []string{}} }},
		{"one sort alone", true, func(g *api.Grammar) { *g = api.Grammar{Sorts: []string{"S"}} }},
		{"one sort alone, without a name", false, func(g *api.Grammar) { *g = api.Grammar{Sorts: []string{""}} }},
		{"a sort without a name", false, func(g *api.Grammar) { g.Sorts[2] = "" }},
		{"two sorts of one name", false, func(g *api.Grammar) { g.Sorts[2] = "S" }},
		{"two sorts of one name, side by side at the end", false, func(g *api.Grammar) { g.Sorts = append(g.Sorts, "T", "T") }},
		{"names of all kinds", true, func(g *api.Grammar) { g.Sorts = []string{"\x00", "\xff\xfe", "a b\n"} }},
		{"names that differ at their ends", true, func(g *api.Grammar) {
			g.Sorts = []string{strings.Repeat("n", 1000), strings.Repeat("n", 999), strings.Repeat("n", 999) + "m"}
		}},
		{"two long names that are one", false, func(g *api.Grammar) {
			g.Sorts = []string{"S", strings.Repeat("n", 1000), strings.Repeat("n", 1000)}
		}},
	}, countsUpTo("bytes of a name", 1000, name), countsUpTo("sorts", api.MaxProds, func(g *api.Grammar, count int) {
		g.Sorts = append(g.Sorts, named(count-3)...)
	}), numbersFrom("a Start", 0, 2, func(g *api.Grammar, n int) { g.Start = n }))
}

func prodEdges() []edge {
	reject := func(g *api.Grammar, l ...api.Sym) { g.Prods[11].Right = l }
	set := set("a")
	out := slices.Concat([]edge{
		{"no production", true, func(g *api.Grammar) { g.Prods, g.Forbid = nil, nil }},
		{"an empty set", false, func(g *api.Grammar) { g.Prods[0].Right[1].Set = api.Set{} }},
		{"a zero symbol", false, func(g *api.Grammar) { g.Prods[2].Right[0] = api.Sym{} }},
		{"a set of the last byte", true, func(g *api.Grammar) { g.Prods[0].Right[1].Set = api.Set{0, 0, 0, 1 << 63} }},
		{"a set of all bytes", true, func(g *api.Grammar) { g.Prods[0].Right[1].Set = readSet("[^]") }},
		{"a set with a Sort", false, func(g *api.Grammar) { g.Prods[0].Right[1].Sort = 1 }},
		{"a set with a Sort below 0", false, func(g *api.Grammar) { g.Prods[0].Right[1].Sort = -1 }},
		{"a sort with a set", false, func(g *api.Grammar) { g.Prods[0].Right[0].Set = set.Set }},
		{"a sort with the last byte's set", false, func(g *api.Grammar) { g.Prods[0].Right[2].Set = api.Set{0, 0, 0, 1 << 63} }},
		{"two alike", true, func(g *api.Grammar) { g.Prods = append(g.Prods, g.Prods...) }},
		{"Prefer and Avoid", false, func(g *api.Grammar) { g.Prods[1].Prefer = true }},
		{"Prefer and Avoid of a lexical one", false, func(g *api.Grammar) { g.Prods[2].Prefer, g.Prods[2].Avoid = true, true }},
		{"Prefer of a made one", true, func(g *api.Grammar) { g.Prods[7].Prefer = true }},
		{"Avoid of a rejected one", true, func(g *api.Grammar) { g.Prods[11].Avoid = true }},
		{"a rejected one with a sort", false, func(g *api.Grammar) { reject(g, sort(0)) }},
		{"a rejected one with a sort behind sets", false, func(g *api.Grammar) { reject(g, set, set, sort(2)) }},
		{"a rejected one with a sort ahead of sets", false, func(g *api.Grammar) { reject(g, sort(1), set, set) }},
		{"a rejected one without symbols", true, func(g *api.Grammar) { reject(g) }},
		{"a huge From", true, func(g *api.Grammar) { g.Prods[3].From = math.MaxInt }},
		{"the last one is wrong alone", false, func(g *api.Grammar) {
			g.Prods = append(g.Prods, slices.Repeat([]api.Prod{{}}, api.MaxProds-len(g.Prods))...)
			g.Prods[api.MaxProds-1].Left = 3
		}},
	}, countsUpTo("productions", api.MaxProds, func(g *api.Grammar, count int) {
		g.Prods = append(g.Prods, slices.Repeat([]api.Prod{{}}, count-len(g.Prods))...)
	}), countsUpTo("symbols", api.MaxRight, func(g *api.Grammar, count int) {
		g.Prods[5].Right = slices.Repeat([]api.Sym{sort(1)}, count)
	}), countsUpTo("symbols of sets", api.MaxRight, func(g *api.Grammar, count int) {
		g.Prods[14].Right = slices.Repeat([]api.Sym{set}, count)
	}), countsUpTo("bytes of a Cons", api.MaxName, func(g *api.Grammar, count int) {
		g.Prods[0].Cons = strings.Repeat("c", count)
	}), numbersFrom("a Left", 0, 2, func(g *api.Grammar, n int) { g.Prods[4].Left = n }),
		numbersFrom("a symbol's Sort", 0, 2, func(g *api.Grammar, n int) { g.Prods[6].Right[0].Sort = n }),
		numbersFrom("a sort's Kind", 1, 1, func(g *api.Grammar, n int) { g.Prods[6].Right[0].Kind = api.SymKind(n) }),
		numbersFrom("a set's Kind", 0, 0, func(g *api.Grammar, n int) { g.Prods[3].Right[1].Kind = api.SymKind(n) }),
		numbersFrom("a Role", 0, 11, func(g *api.Grammar, n int) { g.Prods[3].Role = api.Role(n) }),
		numbersFrom("a From", -1, math.MaxInt-1, func(g *api.Grammar, n int) { g.Prods[3].From = n })[:4],
	)
	for role := api.RoleCons; role <= api.RoleReject; role++ {
		out = append(out, edge{"a Cons of role " + strconv.Itoa(int(role)), role == api.RoleCons, func(g *api.Grammar) {
			g.Prods[3].Role, g.Prods[3].Cons = role, "C"
		}}, edge{"no Cons of role " + strconv.Itoa(int(role)), true, func(g *api.Grammar) { g.Prods[3].Role = role }})
	}
	return out
}

func forbidEdges() []edge {
	put := func(parent, at, child int) func(g *api.Grammar) {
		return func(g *api.Grammar) { g.Forbid = []api.Forbid{{Parent: parent, At: at, Child: child}} }
	}
	last := len(whole().Prods)
	return slices.Concat([]edge{
		{"no Forbid", true, func(g *api.Grammar) { g.Forbid = nil }},
		{"a Forbid of the first symbol", true, put(0, 1, 8)},
		{"a Forbid of a set", false, put(0, 2, 0)},
		{"a Forbid of a set whose Child is of its Sort", false, put(3, 1, 0)},
		{"a Child of another sort", false, put(0, 1, 3)},
		{"a Child of another sort, the Parent's", false, put(0, 1, 1)},
		{"a Child that is rejected", false, put(0, 1, 11)},
		{"a Child that is rejected, without symbols", false, put(0, 1, 14)},
		{"a Parent that is rejected", false, put(11, 1, 2)},
		{"a Parent that is rejected, without symbols", false, put(14, 1, 2)},
		{"a Parent without symbols", false, put(12, 1, 2)},
		{"the last number as Parent", false, put(last-1, 1, 0)},
		{"a zero Forbid", false, put(0, 0, 0)},
		{"twice the same", false, func(g *api.Grammar) { g.Forbid = append(g.Forbid, g.Forbid[0]) }},
		{"twice the same, side by side", false, func(g *api.Grammar) { g.Forbid = append(g.Forbid, g.Forbid[4]) }},
		{"the last one is wrong alone", false, func(g *api.Grammar) { g.Forbid = append(g.Forbid, api.Forbid{Parent: 0, At: 2, Child: 0}) }},
		{"in falling order", true, func(g *api.Grammar) { slices.Reverse(g.Forbid) }},
		{"all of one Parent", true, func(g *api.Grammar) {
			for _, child := range []int{2, 8, 9} {
				g.Forbid = append(g.Forbid, api.Forbid{Parent: 10, At: 1, Child: child}, api.Forbid{Parent: 10, At: 2, Child: child}, api.Forbid{Parent: 10, At: 3, Child: child})
			}
		}},
	}, numbersFrom("an At", 1, 3, func(g *api.Grammar, n int) { g.Forbid = []api.Forbid{{Parent: 10, At: n, Child: 2}} }),
		numbersFrom("a Parent", 0, 1, func(g *api.Grammar, n int) { g.Forbid = []api.Forbid{{Parent: n, At: 1, Child: 2}} }),
		numbersFrom("a Parent, the last one", last, last, func(g *api.Grammar, n int) {
			g.Prods = append(g.Prods, api.Prod{Right: []api.Sym{sort(1)}})
			g.Forbid[0] = api.Forbid{Parent: n, At: 1, Child: 2}
		}),
		numbersFrom("a Child", 0, 1, func(g *api.Grammar, n int) { g.Forbid = []api.Forbid{{Parent: 0, At: 3, Child: n}} }),
		numbersFrom("a Child, the last one", last, last, func(g *api.Grammar, n int) {
			g.Prods = append(g.Prods, api.Prod{Left: 2})
			g.Forbid = []api.Forbid{{Parent: 7, At: 2, Child: n}}
			g.Prods[last-1].Left, g.Prods[last-1].Role = 2, api.RoleReject
		}))
}

func followEdges() []edge {
	return slices.Concat([]edge{
		{"no Follow", true, func(g *api.Grammar) { g.Follow = nil }},
		{"an empty Not", false, func(g *api.Grammar) { g.Follow[1].Not = api.Set{} }},
		{"a Not of the last byte", true, func(g *api.Grammar) { g.Follow[1].Not = api.Set{0, 0, 0, 1 << 63} }},
		{"a Not of all", true, func(g *api.Grammar) { g.Follow[1].Not = readSet("[^]") }},
		{"a zero Follow", false, func(g *api.Grammar) { g.Follow = []api.Follow{{}} }},
		{"two of one sort", false, func(g *api.Grammar) { g.Follow = append(g.Follow, api.Follow{Sort: 0, Not: readSet("[b]")}) }},
		{"two alike", false, func(g *api.Grammar) { g.Follow = append(g.Follow, g.Follow[1]) }},
		{"two of one Not", true, func(g *api.Grammar) { g.Follow[1].Not = g.Follow[0].Not }},
		{"one of each sort, falling", true, func(g *api.Grammar) {
			g.Follow = append(g.Follow, api.Follow{Sort: 2, Not: readSet("[b]")})
			slices.Reverse(g.Follow)
		}},
		{"of each sort one, and a second one of the last", false, func(g *api.Grammar) {
			g.Follow = append(g.Follow, api.Follow{Sort: 2, Not: readSet("[b]")}, api.Follow{Sort: 2, Not: readSet("[c]")})
		}},
	}, numbersFrom("a Follow's Sort", 1, 2, func(g *api.Grammar, n int) { g.Follow[1].Sort = n }))
}

// Each condition of a grammar that may be, broken alone, at its edges.
func TestCheckEdges(t *testing.T) {
	for _, x := range slices.Concat(sortEdges(), prodEdges(), forbidEdges(), followEdges()) {
		g := whole()
		x.bend(&g)
		checkRefusals(t, x.what, g, x.mayBe)
	}
}

// A grammar that is as full as can be may be.
func TestCheckFull(t *testing.T) {
	var g api.Grammar
	for i := range api.MaxProds {
		name := strconv.Itoa(i)
		g.Sorts = append(g.Sorts, strings.Repeat("n", 1000-len(name))+name)
		g.Prods = append(g.Prods, api.Prod{Left: i, Right: slices.Repeat([]api.Sym{sort((i + 1) % api.MaxProds)}, api.MaxRight), Cons: strings.Repeat("c", api.MaxName), From: i})
		g.Follow = append(g.Follow, api.Follow{Sort: i, Not: readSet("[^]")})
		for at := 1; at <= api.MaxRight; at++ {
			g.Forbid = append(g.Forbid, api.Forbid{Parent: i, At: at, Child: (i + 1) % api.MaxProds})
		}
	}
	checkRefusals(t, "a full one", g, true)
	checkWell(t, g, api.ErrDead, 0)
	g.Prods[500].Right = nil
	if e := kernel.Check(g); e != api.ErrGrammar { // its Forbids
		t.Errorf("P6.1: Check: %v", e)
	}
	g.Forbid = slices.DeleteFunc(g.Forbid, func(f api.Forbid) bool { return f.Parent == 500 })
	checkRefusals(t, "a full one with a production without symbols", g, true)
	checkWell(t, g, api.ErrApart, 501)
	g.Start = 501
	checkWell(t, g, api.OK, 0)
}

func checkWell(t *testing.T, g api.Grammar, want api.Errno, number int) {
	t.Helper()
	if e, n := kernel.Well(g); e != want || n != number {
		t.Errorf("P6.1: Well(%s): %v %d, want %v %d", brief(kernel.Text(g)), e, n, want, number)
	}
}

func TestWell(t *testing.T) {
	// All are productive, by productions that wait for each other, in each order.
	checkWell(t, read("S", "S ="), api.OK, 0)
	checkWell(t, read("S", "S = [a]"), api.OK, 0)
	checkWell(t, read("S", "S = S", "S = S S [a]", "S ="), api.OK, 0)
	checkWell(t, read("S A B C", "S = A", "A = B", "B = C", "C = [c]"), api.OK, 0)
	checkWell(t, read("S A B C", "C = [c]", "B = C", "A = B", "S = A"), api.OK, 0)
	checkWell(t, read("S A B", "S = A B", "S =", "A = S A", "A = S", "B = A S"), api.OK, 0)
	// The least one that is not productive.
	checkWell(t, read("S"), api.ErrDead, 0)
	checkWell(t, read("S", "S = S"), api.ErrDead, 0)
	checkWell(t, read("S A", "S = A"), api.ErrDead, 0)
	checkWell(t, read("S A", "S = [a]", "S = A"), api.ErrDead, 1)
	checkWell(t, read("S A B", "S = [a]", "A = B", "B = A"), api.ErrDead, 1)
	checkWell(t, read("S A B C", "S = [a] S", "S =", "A = A [b]", "B = [b]", "C = B C", "S = A B C"), api.ErrDead, 1)
	checkWell(t, read("S A B C", "S = [a]", "S = A", "S = B", "S = C", "A = [a]", "C = B"), api.ErrDead, 2)
	// Productive, or reached, by productions of RoleReject alone is neither.
	checkWell(t, read("S", "S = [a] : reject"), api.ErrDead, 0)
	checkWell(t, read("S A", "S = A", "S = : gap", "A = : reject", "A = [a] [b] : reject"), api.ErrDead, 1)
	checkWell(t, read("S A", "S = A", "A = [a] : reject", "A = [b]"), api.OK, 0)
	checkWell(t, read("S A", "S =", "A = S", "S = [a] : reject"), api.ErrApart, 1)
	// The least one that is apart.
	checkWell(t, read("S A", "S =", "A ="), api.ErrApart, 1)
	checkWell(t, read("S A", "S =", "A = S"), api.ErrApart, 1)
	checkWell(t, read("S A B C D", "S = B", "A = B", "B =", "C = A D", "D = [d]"), api.ErrApart, 1)
	checkWell(t, read("S A B C D", "S = [b] B", "A = C", "B = A", "C = S", "C =", "D = S"), api.ErrApart, 4)
	// A dead one is told ahead of one that is apart, whatever their numbers.
	checkWell(t, read("S A B", "S =", "A =", "B = B"), api.ErrDead, 2)
	checkWell(t, read("S A B", "S =", "B =", "A = A"), api.ErrDead, 1)
	checkWell(t, read("S A B C", "S =", "A =", "B = C [b]", "C = B", "S = C"), api.ErrDead, 2)
	// Start counts, not the first sort.
	g := read("S A B", "S = [s]", "A = B", "B =")
	g.Start = 1
	checkWell(t, g, api.ErrApart, 0)
	g.Start = 2
	checkWell(t, g, api.ErrApart, 0)
	g = read("S A B", "S = [s]", "A = B S", "B =")
	g.Start = 1
	checkWell(t, g, api.OK, 0)
	g = read("S A", "S = S", "A = [a]")
	g.Start = 1
	checkWell(t, g, api.ErrDead, 0)
	// What is forbidden, preferred or may not follow does not count.
	checkWell(t, read("S A", "S = A", "A = [a]", "forbid 0 1 1", "follow A [^]", "follow S [^]"), api.OK, 0)
	checkWell(t, read("S A", "S = A : avoid", "S = : prefer", "A = [a] : avoid"), api.OK, 0)
	for _, bad := range refused() {
		checkWell(t, bad, api.ErrGrammar, 0)
	}
}

// Chains as long as can be, both ways.
func TestWellLong(t *testing.T) {
	for _, back := range []bool{false, true} {
		g := api.Grammar{Sorts: named(api.MaxProds)}
		for i := range api.MaxProds {
			g.Prods = append(g.Prods, api.Prod{Left: i, Right: slices.Repeat([]api.Sym{sort(min(i+1, api.MaxProds-1))}, api.MaxRight)})
		}
		g.Prods[api.MaxProds-1].Right = nil
		if back {
			slices.Reverse(g.Prods)
		}
		checkWell(t, g, api.OK, 0)
		g.Start = 1
		checkWell(t, g, api.ErrApart, 0)
		g.Start = 0
		l, e := kernel.Of(g, 0)
		if e != api.OK || len(l) != 1 {
			t.Fatalf("P6.1: Of: %v %v", l, e)
		}
		for i := range g.Prods {
			if g.Prods[i].Right == nil {
				g.Prods[i].Role, g.Prods[i].Right = api.RoleReject, []api.Sym{set("a")}
			}
		}
		checkWell(t, g, api.ErrDead, 0)
	}
}
