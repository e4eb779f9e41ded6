package filters_test

import (
	"fmt"
	"math/rand"
	"reflect"
	"slices"
	"testing"

	"rosetta/api"
	"rosetta/filters"
)

// roomy tells a list with room behind it, in which something stands already.
func roomy[T any](l []T, behind T) []T {
	room := append(slices.Clone(l), behind, behind, behind)
	return room[:len(l)]
}

// roomyInput tells a grammar and a list all whose lists have room behind them.
func roomyInput(g api.Grammar, alts []api.Alt) (api.Grammar, []api.Alt) {
	mark := api.Alt{Sort: -7, Cuts: []int{-7}}
	var list []api.Alt
	for _, a := range alts {
		a.Cuts = roomy(a.Cuts, -7)
		list = append(list, a)
	}
	var prods []api.Prod
	for _, p := range g.Prods {
		p.Right = roomy(p.Right, api.Sym{Sort: -7})
		prods = append(prods, p)
	}
	g.Prods = roomy(prods, api.Prod{Left: -7})
	g.Sorts = roomy(g.Sorts, "mark")
	g.Forbid = roomy(g.Forbid, api.Forbid{Parent: -7})
	g.Follow = roomy(g.Follow, api.Follow{Sort: -7})
	return g, roomy(list, mark)
}

// whole tells all that stands in a grammar and a list, room behind included.
func whole(g api.Grammar, alts []api.Alt) string {
	out := fmt.Sprint(g.Sorts[:cap(g.Sorts)], g.Start, g.Forbid[:cap(g.Forbid)], g.Follow[:cap(g.Follow)], alts[:cap(alts)], len(alts))
	for _, p := range g.Prods[:cap(g.Prods)] {
		out += fmt.Sprint(p, p.Right[:cap(p.Right)])
	}
	for _, a := range alts {
		out += fmt.Sprint(a.Cuts[:cap(a.Cuts)])
	}
	return out
}

// What is handed in is not changed, and what is answered shares no memory with it, with another answer, or within itself.
func TestMemory(t *testing.T) {
	die := rand.New(rand.NewSource(123))
	for range 300 {
		g := randomGrammar(die, 3, 5, 3)
		text := pick(die, textsOf("ab", 3)...)
		g, alts := roomyInput(g, waysOf(t, g, text))
		ahead := whole(g, alts)
		left, e := filters.Filter(g, text, alts)
		again, e2 := filters.Filter(g, text, alts)
		why, e3 := filters.Why(g, text, alts)
		whyAgain, e4 := filters.Why(g, text, alts)
		if e != api.OK || e2 != api.OK || e3 != api.OK || e4 != api.OK || !reflect.DeepEqual(left, again) || !slices.Equal(why, whyAgain) {
			t.Fatalf("P12.1: %v %v, %v %v", left, again, why, whyAgain)
		}
		told, toldWhy := fmt.Sprint(left), fmt.Sprint(why)
		checkApart(t, again)
		for i := range whyAgain[:cap(whyAgain)] {
			whyAgain[:cap(whyAgain)][i] = -9
		}
		if whole(g, alts) != ahead || fmt.Sprint(left) != told || fmt.Sprint(why) != toldWhy {
			t.Fatal("what is answered shares memory, or what is handed in was changed")
		}
		checkApart(t, alts)
		if fmt.Sprint(left) != told || fmt.Sprint(why) != toldWhy {
			t.Fatal("what is answered shares memory with what was handed in")
		}
	}
}

// checkApart asks that no two lists of alternatives share memory, room behind them included: each is written full of its own number, and what they stand in of none.
func checkApart(t *testing.T, alts []api.Alt) {
	t.Helper()
	for i, a := range alts {
		for k := range a.Cuts[:cap(a.Cuts)] {
			a.Cuts[:cap(a.Cuts)][k] = i
		}
	}
	for i, a := range alts {
		for _, n := range a.Cuts[:cap(a.Cuts)] {
			if n != i {
				t.Fatalf("lists of an answer share memory: %v", alts)
			}
		}
	}
	for i := range alts[:cap(alts)] {
		alts[:cap(alts)][i] = api.Alt{}
	}
}
