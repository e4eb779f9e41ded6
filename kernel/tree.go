package kernel

import (
	"rosetta/api"
	"rosetta/sets"
)

// isNested tells whether a tree is nested at most so deep.
func isNested(t api.Tree, deep int) bool {
	return deep > 0 && all(t.Kids, func(kid api.Tree) bool { return isNested(kid, deep-1) })
}

// isTree tells whether a tree is one of a grammar, of whatever sort.
func isTree(g *api.Grammar, t api.Tree) bool {
	if !isNumber(t.Prod, len(g.Prods)) || t.Byte != 0 {
		return false
	}
	p := g.Prods[t.Prod]
	if p.Role == api.RoleReject || len(t.Kids) != len(p.Right) {
		return false
	}
	for i, kid := range t.Kids {
		if !isTreeOf(g, p.Right[i], kid) {
			return false
		}
	}
	return true
}

// isTreeOf tells whether a tree may stand for a symbol.
func isTreeOf(g *api.Grammar, s api.Sym, t api.Tree) bool {
	if s.Kind == api.SymSet {
		return t.Prod == -1 && len(t.Kids) == 0 && sets.Has(s.Set, t.Byte)
	}
	return isTree(g, t) && g.Prods[t.Prod].Left == s.Sort
}

// appendYield adds a tree's bytes.
func appendYield(out []byte, t api.Tree) []byte {
	if t.Prod < 0 {
		return append(out, t.Byte)
	}
	for _, kid := range t.Kids {
		out = appendYield(out, kid)
	}
	return out
}
