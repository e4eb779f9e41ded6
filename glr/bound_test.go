package glr_test

import (
	"fmt"
	"math"
	"math/big"
	"math/rand"
	"slices"
	"strings"
	"testing"

	"rosetta/api"
	"rosetta/glr"
	"rosetta/tables"
)

// boundOf tells what Bound must tell, by numbers of any size; and whether that is the chapter's number itself.
func boundOf(g api.Grammar, n int) (int, bool) {
	x, e := tables.Make(g)
	if e != api.OK {
		panic(e)
	}
	leads := int64(0)
	for state := range x.States() {
		leads += int64(x.Leads(state))
	}
	sum := big.NewInt(leads)
	sum.Mul(sum, big.NewInt(int64(n+1)))
	sum.Mul(sum, big.NewInt(int64(n+2)))
	sum.Div(sum, big.NewInt(2))
	for _, p := range g.Prods {
		if k := len(p.Right); p.Role != api.RoleReject {
			sum.Add(sum, new(big.Int).Binomial(int64(n+k+1), int64(k+1)))
		}
	}
	most := new(big.Int).Lsh(big.NewInt(1), 62)
	if sum.Cmp(most) > 0 {
		return 1 << 62, false
	}
	return int(sum.Int64()), true
}

// checkBound asks what Bound tells, and tells whether it is below 2^62.
func checkBound(t *testing.T, g api.Grammar, n int) bool {
	t.Helper()
	want, whole := boundOf(g, n)
	if got, e := glr.Bound(g, n); got != want || e != api.OK {
		t.Errorf("P10.3: Bound(%d) of %s: %d %v, want %d", n, brief(g.Prods), got, e, want)
	}
	return whole
}

// repeated tells a grammar of so many productions of so many symbols, all bytes.
func repeated(prods, symbols int) api.Grammar {
	return api.Grammar{Sorts: []string{"S"}, Prods: slices.Repeat([]api.Prod{{Right: slices.Repeat([]api.Sym{set("a")}, symbols), From: -1}}, prods)}
}

// Each error of Bound alone; and where two are due at once, the one that the chapter names first.
func TestBoundErrors(t *testing.T) {
	refuses := func(what string, g api.Grammar, n int, want api.Errno) {
		t.Helper()
		if got, e := glr.Bound(g, n); got != 0 || e != want {
			t.Errorf("P10.3: %s, %d: %d %v, want %v", what, n, got, e, want)
		}
	}
	numbers := []int{0, 1, api.MaxParse, api.MaxParse + 1, -1, math.MaxInt, math.MinInt}
	for what, g := range refused() {
		for _, n := range numbers {
			refuses(what, g, n, api.ErrGrammar)
		}
	}
	for _, n := range numbers {
		refuses("too many states", doubling(14), n, api.ErrLong)
	}
	for _, n := range []int{-1, -2, -3, -1 << 32, math.MinInt, api.MaxParse + 1, 1 << 32, 1<<32 + 1, math.MaxInt} {
		refuses("n", example(), n, api.ErrArg)
	}
}

// The chapter's number: by leads and places, by productions' symbols, as far as it goes.
func TestBound(t *testing.T) {
	for _, n := range []int{0, 1, 2, 3, 100, api.MaxParse - 1, api.MaxParse} {
		for _, g := range []api.Grammar{example(), full(), read("S"), read("S", "S ="), read("S", "S = : reject", "S = [a] [b] [c] : reject"), doubling(4)} {
			if !checkBound(t, g, n) {
				t.Errorf("P10.3: above 2^62: %s", brief(g))
			}
		}
		for symbols := range api.MaxRight + 1 {
			checkBound(t, repeated(1, symbols), n)
			checkBound(t, repeated(api.MaxProds, symbols), n)
		}
	}
	checkBound(t, doubling(13), 1) // as many states as may be, but few
	if n, e := glr.Bound(read("S", "S ="), 4); n != 5 || e != api.OK {
		t.Errorf("P10.3: of no symbols: %d %v", n, e)
	}
	if n, e := glr.Bound(read("S", "S = [a]"), 4); n != 15+15 || e != api.OK {
		t.Errorf("P10.3: of one symbol: %d %v", n, e)
	}
	if n, e := glr.Bound(repeated(1, api.MaxRight), api.MaxParse); n != 1<<62 || e != api.OK {
		t.Errorf("P10.3: above 2^62: %d %v", n, e)
	}
}

// Numbers just below 2^62 and just above it, of one production and of many: no sum and no product is wrapped round.
func TestBoundAtItsEdge(t *testing.T) {
	for symbols := range api.MaxRight + 1 {
		for _, prods := range []int{1, 2, 3, 4, 5, 1000} {
			g := repeated(prods, symbols)
			last := 0 // the last n with the chapter's own number
			for step := api.MaxParse; step > 0; step /= 2 {
				if _, whole := boundOf(g, min(last+step, api.MaxParse)); whole {
					last = min(last+step, api.MaxParse)
				}
			}
			for n := max(0, last-2); n <= min(last+3, api.MaxParse); n++ {
				checkBound(t, g, n)
			}
		}
	}
	// All about the places where products go beyond a word.
	for symbols := range api.MaxRight + 1 {
		g := repeated(1, symbols)
		for n := 0; n <= api.MaxParse; n += 1 + n/128 {
			checkBound(t, g, n)
		}
	}
	// One number that is above 2^62, with others behind it and ahead of it.
	g := repeated(3, api.MaxRight)
	for i := range 4 {
		g.Prods = slices.Insert(g.Prods, i, api.Prod{Right: []api.Sym{set("a")}, From: -1})
		checkBound(t, g, api.MaxParse)
	}
}

// P10.3, P10.4: Steps are never above Bound, and come near it where all is there.
func TestStepsBelowBound(t *testing.T) {
	die := rand.New(rand.NewSource(103))
	for i := range 500 {
		g := randomGrammar(die, 1+i%4, 1+i%9, 1+i%4)
		ran(t, g, randomText(die, g, i%9))
		checkBound(t, g, i%50)
	}
	for symbols := 2; symbols <= 6; symbols++ {
		g := read("S", "S =", "S = [a]", "S = "+strings.Repeat("S ", symbols))
		for length := range 6 {
			w := ran(t, g, strings.Repeat("a", length))
			if b, _ := glr.Bound(g, length); length > 2 && b > 3*w.Steps {
				t.Errorf("P10.3: %d symbols, %d bytes: %d steps, a bound of %d", symbols, length, w.Steps, b)
			}
		}
	}
}

// Grammars as full as may be: each call ends, with what is right.
func TestFull(t *testing.T) {
	g := repeated(api.MaxProds, api.MaxRight)
	w := ran(t, g, strings.Repeat("a", api.MaxRight+1))
	if len(w.Alts) != api.MaxProds || w.Steps != api.MaxProds+api.MaxRight || w.Far != api.MaxRight {
		t.Errorf("P10.1: all the same: %d alternatives, %d steps, Far %d", len(w.Alts), w.Steps, w.Far)
	}
	// Each sort is the next one, and itself; the last one is nothing. They are told in rising and in falling order.
	const sorts = api.MaxProds / 2
	for falling := range 2 {
		g = api.Grammar{}
		for n := range sorts {
			g.Sorts = append(g.Sorts, fmt.Sprint("T", n))
			g.Prods = append(g.Prods, api.Prod{Left: n, Right: []api.Sym{sort((n + 1) % sorts)}, From: -1}, api.Prod{Left: n, Right: []api.Sym{sort(n)}, From: -1})
		}
		g.Prods[2*sorts-2].Right = nil
		if falling == 1 {
			slices.Reverse(g.Prods)
		}
		if w = ran(t, g, "a"); len(w.Alts) != 2*sorts || w.Steps != 3*sorts || w.Far != 0 {
			t.Errorf("P10.1: each the next one: %d alternatives, %d steps", len(w.Alts), w.Steps)
		}
	}
	// As many symbols as may be, each nothing or a byte: a number of ways that no budget reaches.
	g = read("S A", "S = "+strings.Repeat("A ", api.MaxRight), "A =", "A = [a]")
	for length := range 4 {
		text := strings.Repeat("a", length)
		ways := int(new(big.Int).Binomial(int64(api.MaxRight), int64(length)).Int64())
		if w := ran(t, g, text); len(w.Alts) < ways {
			t.Errorf("P10.1: %d of %d ways", len(w.Alts), ways)
		}
	}
	checkRefused(t, "a number of ways that no budget reaches", g, strings.Repeat("a", 20), 2_000_000, api.ErrBudget)
	// Many sorts that are nothing, in one another, 30 at a time.
	g = api.Grammar{}
	for n := range 60 {
		g.Sorts = append(g.Sorts, fmt.Sprint("T", n))
		g.Prods = append(g.Prods, api.Prod{Left: n, From: -1}, api.Prod{Left: n, Right: slices.Repeat([]api.Sym{sort((n + 1) % 60)}, api.MaxRight), From: -1})
	}
	if w := ran(t, g, ""); len(w.Alts) != len(g.Prods) {
		t.Errorf("P10.1: nothing, 30 at a time: %d alternatives", len(w.Alts))
	}
}
