package filters

import (
	"slices"

	"rosetta/api"
	"rosetta/sets"
)

// shape is what the texts of a production have in common that is only sets: their sort, and how many bytes they have.
type shape struct {
	sort, bytes int
}

// rules are what a grammar says of its sorts' texts, and of what stands behind them.
type rules struct {
	rejecting map[shape][][]api.Sym // the right sides of RoleReject
	barred    map[int]api.Set       // by sorts, the bytes that may not stand behind them
}

// rulesOf tells the rules of a grammar that may be.
func rulesOf(g api.Grammar) rules {
	r := rules{map[shape][][]api.Sym{}, map[int]api.Set{}}
	for _, p := range g.Prods {
		if p.Role == api.RoleReject {
			s := shape{p.Left, len(p.Right)}
			r.rejecting[s] = append(r.rejecting[s], p.Right)
		}
	}
	for _, f := range g.Follow {
		r.barred[f.Sort] = f.Not
	}
	return r
}

// rejects tells whether a text is rejected as one of a sort.
func (r rules) rejects(sort int, text string) bool {
	return slices.ContainsFunc(r.rejecting[shape{sort, len(text)}], func(right []api.Sym) bool {
		for i, s := range right {
			if !sets.Has(s.Set, text[i]) {
				return false
			}
		}
		return true
	})
}

// bars tells whether what stands behind a sort begins with a byte that may not stand there.
func (r rules) bars(sort int, behind string) bool {
	return behind != "" && sets.Has(r.barred[sort], behind[0])
}
