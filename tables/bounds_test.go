package tables_test

import (
	"fmt"
	"math/rand"
	"slices"
	"testing"

	"rosetta/api"
	"rosetta/kernel"
	"rosetta/sets"
	"rosetta/tables"
)

// chains tells a grammar whose productions begin each with a sort of its own, which has no production, and go on with one symbol, again and again: so many rows of MaxRight symbols, and one of last. Each symbol leads to a state of its own.
func chains(rows, last int, symbol api.Sym) api.Grammar {
	g := api.Grammar{Sorts: []string{"S"}}
	for n := range rows + 1 {
		length := api.MaxRight
		if n == rows {
			length = last
		}
		g.Sorts = append(g.Sorts, fmt.Sprint("T", n))
		right := append([]api.Sym{sort(n + 1)}, slices.Repeat([]api.Sym{symbol}, api.MaxRight)...)
		g.Prods = append(g.Prods, api.Prod{Right: right[:length], From: -1})
	}
	return g
}

// checkLong asks that a grammar has too many states.
func checkLong(t *testing.T, what string, g api.Grammar) {
	t.Helper()
	if e := kernel.Check(g); e != api.OK {
		t.Fatal(what, e)
	}
	if x, e := tables.Make(g); x != nil || e != api.ErrLong {
		t.Errorf("P9.1: %s: %d states, %v, want ErrLong", what, x.States(), e)
	}
}

// As many states as there may be, and one more; the last one behind a byte, behind a sort, behind itself.
func TestMaxStates(t *testing.T) {
	const rows = (api.MaxStates - 1) / api.MaxRight
	const rest = api.MaxStates - 1 - rows*api.MaxRight
	for what, symbol := range map[string]api.Sym{"bytes": set("a"), "sorts without a production": sort(1), "sorts": sort(0)} {
		for _, more := range []int{-1, 0} {
			g := chains(rows, rest+more, symbol)
			x, e := tables.Make(g)
			if e != api.OK || x.States() != api.MaxStates+more {
				t.Fatalf("P9.1: MaxStates and %d, %s: %d %v", more, what, x.States(), e)
			}
			last := x.States() - 1
			complete, items := x.Reduces(last), x.Items(last)
			if len(complete) != 1 || !slices.Contains(items, api.Item{Prod: complete[0], Dot: len(g.Prods[complete[0]].Right)}) {
				t.Errorf("P9.1, P9.3: %s: the last state: %v %v", what, items, complete)
			}
			checkNothing(t, what, x, api.MaxStates+more)
		}
		checkLong(t, "MaxStates and one more, "+what, chains(rows, rest+1, symbol))
	}
	// The one too many is the last one of its state to lead to: by a byte, behind sorts.
	g := chains(rows, rest, set("a"))
	g.Prods = append(g.Prods, api.Prod{Right: []api.Sym{set("z")}})
	checkLong(t, "one more, by a byte of the first state", g)
	g = chains(rows, rest-1, set("a"))
	g.Prods = append(g.Prods, api.Prod{Right: []api.Sym{set("z")}}, api.Prod{Right: []api.Sym{set("z")}})
	if x, e := tables.Make(g); e != api.OK || x.States() != api.MaxStates {
		t.Errorf("P9.1: MaxStates with a byte: %d %v", x.States(), e)
	}
}

// A grammar that may not be is refused as such, though its states would be too many.
func TestGrammarAheadOfLong(t *testing.T) {
	g := chains(998, 1, set("a"))
	checkLong(t, "many", g)
	g.Follow = []api.Follow{{Sort: 0}}
	if x, e := tables.Make(g); x != nil || e != api.ErrGrammar {
		t.Errorf("P9.1: %v %v, want ErrGrammar", x, e)
	}
}

// States that double with each byte: those whose last bytes were a or b, so many of them.
func TestDoubling(t *testing.T) {
	for length := 1; length <= 20; length++ {
		g := read("S", "S = [ab] S", "S = [a]")
		g.Prods[1].Right = append(g.Prods[1].Right, slices.Repeat([]api.Sym{set("ab")}, length-1)...)
		// The first state, one for each way in which the last bytes were a or not, and the one behind S.
		want := 1 + 1<<length + 1
		x, e := tables.Make(g)
		switch {
		case want > api.MaxStates && (x != nil || e != api.ErrLong):
			t.Errorf("P9.1: %d: %d %v, want ErrLong", length, x.States(), e)
		case want <= api.MaxStates && (e != api.OK || x.States() != want):
			t.Errorf("P9.1: %d: %d %v, want %d", length, x.States(), e, want)
		}
	}
}

// randomSets tells a grammar as full as may be whose sets are any.
func randomSets(die *rand.Rand) api.Grammar {
	g := api.Grammar{Sorts: []string{"S"}}
	for range api.MaxProds {
		var right []api.Sym
		for range api.MaxRight - 1 {
			right = append(right, api.Sym{Set: api.Set{die.Uint64(), die.Uint64(), die.Uint64(), die.Uint64()}})
		}
		g.Prods = append(g.Prods, api.Prod{Right: append(right, sort(0)), From: -1})
	}
	return g
}

// Grammars as full as may be: each call ends, with what is right.
func TestFull(t *testing.T) {
	checkLong(t, "any sets", randomSets(rand.New(rand.NewSource(99))))
	// All productions the same: as many states as Dots.
	g := api.Grammar{Sorts: []string{"S"}, Prods: slices.Repeat([]api.Prod{{Right: slices.Repeat([]api.Sym{{Set: sets.All()}}, api.MaxRight)}}, api.MaxProds)}
	x := made(t, g)
	if x.States() != api.MaxRight+1 {
		t.Fatalf("P9.1: all the same: %d states", x.States())
	}
	for n := range x.States() {
		items := x.Items(n)
		if len(items) != api.MaxProds || items[0] != (api.Item{Dot: n}) || items[api.MaxProds-1] != (api.Item{Prod: api.MaxProds - 1, Dot: n}) {
			t.Errorf("P9.1: all the same: state %d: %s", n, brief(items))
		}
		if to, ok := x.Shift(n, 77); ok != (n < api.MaxRight) || ok && to != n+1 {
			t.Errorf("P9.2: all the same: Shift(%d): %d %v", n, to, ok)
		}
	}
	if l := x.Reduces(api.MaxRight); len(l) != api.MaxProds || l[999] != 999 {
		t.Errorf("P9.3: all the same: %s", brief(l))
	}
	// Each sort is the next one, 30 times: all belong to the first state; the last ones have no production.
	g = api.Grammar{}
	for n := range api.MaxProds {
		g.Sorts = append(g.Sorts, fmt.Sprint("T", n))
		g.Prods = append(g.Prods, api.Prod{Left: n, Right: slices.Repeat([]api.Sym{sort(min(n+1, api.MaxProds-1))}, min(n+1, 2))})
	}
	x = made(t, g)
	if x.Leads(0) != api.MaxProds-1 || len(x.Items(0)) != api.MaxProds {
		t.Errorf("P9.1, P9.3: each the next one: %d leads, %d items", x.Leads(0), len(x.Items(0)))
	}
	if to, ok := x.Goto(0, api.MaxProds-1); to != api.MaxProds-1 || !ok {
		t.Errorf("P9.2: each the next one: %d %v", to, ok)
	}
	if l := x.Items(0); l[0] != (api.Item{}) || !slices.IsSortedFunc(l, func(a, b api.Item) int { return a.Prod - b.Prod }) {
		t.Errorf("P9.1: each the next one: %s", brief(l))
	}
}

// As many sets as there may be, each another one: the last ones are told apart as the first ones are.
func TestManySets(t *testing.T) {
	sorts := []string{"S", "A"}
	for len(sorts) < api.MaxProds {
		sorts = append(sorts, fmt.Sprint("T", len(sorts)))
	}
	one := func(i int) api.Sym { // 30000 sets, with x in none
		return api.Sym{Set: api.Set{1, uint64(i + 1), 0, 0}}
	}
	g := api.Grammar{Sorts: sorts}
	for n := range api.MaxProds - 10 { // of a sort that is not reached
		var right []api.Sym
		for k := range api.MaxRight {
			right = append(right, one(n*api.MaxRight+k))
		}
		g.Prods = append(g.Prods, api.Prod{Left: 1, Right: right, From: -1})
	}
	for n := range 10 {
		var right []api.Sym
		for k := range api.MaxRight {
			right = append(right, api.Sym{Set: api.Set{0, 0, 1 << n, 1 << k}})
		}
		g.Prods = append(g.Prods, api.Prod{Right: right, From: -1})
	}
	x := made(t, g)
	if want := 1 + 11*api.MaxRight; x.States() != want { // of each alone, and of all ten
		t.Errorf("P9.1: %d states, want %d", x.States(), want)
	}
	checkFollows(t, g, x)
	for n := range 10 {
		at := 0
		for k := range api.MaxRight {
			to, ok := x.Shift(at, byte(128+n))
			if !ok || !slices.Contains(x.Items(to), api.Item{Prod: 990 + n, Dot: k + 1}) {
				t.Fatalf("P9.2: %d, %d: %d %v %v", n, k, to, ok, x.Items(to))
			}
			at = to
		}
		if l := x.Reduces(at); !slices.Equal(l, []int{990 + n}) {
			t.Errorf("P9.3: %d: %v", n, l)
		}
	}
	// The sets that are not reached, now reached: each state asks for one of them alone.
	for n := range g.Prods {
		g.Prods[n].Right = slices.Clone(g.Prods[n].Right)
		g.Prods[n].Right[0] = sort(n)
	}
	for n := range 400 {
		g.Prods[n*2].Left = 0
	}
	x = made(t, g)
	if want := 1 + 410*api.MaxRight; x.States() != want {
		t.Errorf("P9.1: %d states, want %d", x.States(), want)
	}
	for n := range 400 {
		at, _ := x.Goto(0, n*2)
		for k := 1; k < api.MaxRight; k++ {
			if x.Leads(at) != 1 || x.Next(at) != one(n*2*api.MaxRight+k).Set {
				t.Fatalf("P9.3: %d, %d: %s", n, k, sets.Text(x.Next(at)))
			}
			at, _ = x.Shift(at, 0)
		}
		if l := x.Items(at); !slices.Equal(l, []api.Item{{Prod: n * 2, Dot: api.MaxRight}}) {
			t.Errorf("P9.1: %d: %v", n, l)
		}
	}
}

// Many sorts and many classes of many states that all lead back to each other.
func TestManyEdges(t *testing.T) {
	const rows = 500
	g := chains(rows-1, api.MaxRight, sort(0))
	for b := range 256 {
		g.Prods = append(g.Prods, api.Prod{Right: []api.Sym{set(string([]byte{byte(b)}))}, From: -1})
	}
	x, e := tables.Make(g)
	if want := 1 + rows*api.MaxRight + 256; e != api.OK || x.States() != want {
		t.Fatalf("P9.1: %d %v, want %d states", x.States(), e, want)
	}
	if x.Leads(0) != rows+256 { // no Dot of it stands ahead of S
		t.Errorf("P9.3: %d", x.Leads(0))
	}
	for n := range 256 {
		first, _ := x.Shift(0, byte(n))
		at, _ := x.Goto(0, 1+n)
		for k := 1; k < api.MaxRight; k++ {
			again, ok := x.Shift(at, byte(n))
			if x.Leads(at) != rows+256+1 || again != first || !ok {
				t.Fatalf("P9.2, P9.3: state %d: %d leads, %d %v, want %d", at, x.Leads(at), again, ok, first)
			}
			if at, ok = x.Goto(at, 0); !ok {
				t.Fatalf("P9.2: %d, %d", n, k)
			}
		}
		if !slices.Equal(x.Reduces(at), []int{n}) {
			t.Errorf("P9.3: state %d: %v", at, x.Reduces(at))
		}
	}
}
