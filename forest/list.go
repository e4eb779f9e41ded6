package forest

import (
	"cmp"
	"math"
	"slices"

	"rosetta/api"
)

// places are those where a list's alternatives may stand: from 0 until the end; has tells whether the byte at a place may be in a set.
type places struct {
	end int
	has func(place int, set api.Set) bool
}

// placesOf tells the places of a text.
func placesOf(text string) places {
	return places{len(text), func(place int, set api.Set) bool {
		b := text[place]
		return set[b/64]>>(b%64)&1 == 1
	}}
}

// anyPlaces tells places of no text.
func anyPlaces() places {
	return places{math.MaxInt, func(int, api.Set) bool { return true }}
}

// isList tells whether alternatives are a list of a grammar's, over some places.
func isList(g api.Grammar, alts []api.Alt, p places) bool {
	for i, a := range alts {
		if !isAlt(g, a, p) || i > 0 && compareAlts(alts[i-1], a) >= 0 {
			return false
		}
	}
	return true
}

// compareAlts tells which of two alternatives stands first in a list.
func compareAlts(a, b api.Alt) int {
	return cmp.Or(cmp.Compare(a.Sort, b.Sort), cmp.Compare(a.From, b.From), cmp.Compare(a.Until, b.Until),
		cmp.Compare(a.Prod, b.Prod), slices.Compare(a.Cuts, b.Cuts))
}

// isAlt tells whether something is an alternative of a grammar, over some places.
func isAlt(g api.Grammar, a api.Alt, p places) bool {
	if a.Prod < 0 || a.Prod >= len(g.Prods) || a.From < 0 || a.Until > p.end {
		return false
	}
	prod := g.Prods[a.Prod]
	if prod.Role == api.RoleReject || prod.Left != a.Sort || len(prod.Right) != len(a.Cuts) {
		return false
	}
	at := a.From
	for i, cut := range a.Cuts {
		if cut < at || cut > a.Until {
			return false
		}
		if s := prod.Right[i]; s.Kind == api.SymSet && (cut-at != 1 || !p.has(at, s.Set)) {
			return false
		}
		at = cut
	}
	return at == a.Until
}
