package normal

import (
	"testing"

	"rosetta/api"
	"rosetta/sets"
)

// Conditions of the chapter that no definition breaks, as layer 4 refuses it ahead: each alone.
func TestConditionsBehindLayer4(t *testing.T) {
	right := []api.DefSym{{Is: api.DefSet, Set: sets.Of('a')}}
	d := describe(api.Module{Start: "E", Prods: []api.DefProd{{Sort: "E", Cons: "A", Right: right}}})
	for _, p := range []api.DefProd{
		{Lexical: true, Sort: "N", Right: right, Cons: "C"},
		{Lexical: true, Sort: "N", Right: right, Template: []api.DefItem{{Kid: 1}}},
		{Lexical: true, Sort: "N", Right: right, Bracket: true},
		{Lexical: true, Sort: "N", Right: right, Assoc: api.AssocLeft},
		{Lexical: true, Sort: "N", Right: right, Assoc: api.AssocNon},
	} {
		if !d.isWrongLexical(p) || isWrongReject(p) || isWrongCons(p) {
			t.Errorf("P7.1: %+v is no ErrLexical alone", p)
		}
	}
	for _, p := range []api.DefProd{
		{Reject: true, Sort: "E", Right: right, Cons: "C"},
		{Lexical: true, Reject: true, Sort: "N", Right: right, Prefer: true},
		{Lexical: true, Reject: true, Sort: "N", Right: right, Avoid: true},
	} {
		if d.isWrongLexical(p) || !isWrongReject(p) || isWrongCons(p) {
			t.Errorf("P7.1: %+v is no ErrReject alone", p)
		}
	}
	for _, p := range []api.DefProd{
		{Lexical: true, Sort: "N", Right: right},
		{Lexical: true, Sort: "N", Right: right, Prefer: true},
		{Lexical: true, Reject: true, Sort: "N", Right: right},
		{Sort: "E", Right: right, Cons: "C", Prefer: true, Assoc: api.AssocLeft, Template: []api.DefItem{{Kid: 1}}},
	} {
		if d.isWrongLexical(p) || isWrongReject(p) || isWrongCons(p) {
			t.Errorf("P7.1: %+v may not be", p)
		}
	}
}

// What goes over priorities may be left early, and gone over again.
func TestLeftEarly(t *testing.T) {
	names := []api.DefName{{Sort: "A", Cons: "C"}, {Sort: "B", Cons: "C"}}
	p := api.DefPrio{Groups: []api.DefGroup{{Names: names}, {Names: names}}}
	count := func(most int) (pairs, both int) {
		for range stronger(p) {
			if pairs++; pairs == most {
				break
			}
		}
		for range alike(p.Groups[0]) {
			if both++; both == most {
				break
			}
		}
		return pairs, both
	}
	for _, most := range []int{1, 9, 3} {
		if pairs, both := count(most); pairs != min(most, 4) || both != min(most, 4) {
			t.Errorf("P7.1: left behind %d: %d %d", most, pairs, both)
		}
	}
}
