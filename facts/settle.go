package facts

import (
	"slices"

	"rosetta/api"
)

// settle asks productions, again and again, for what they say, till none of them says anything new.
func settle(prods []api.Prod, saysNew func(p api.Prod) bool) {
	quiet := 0 // so many in a row had nothing new to say
asking:
	for quiet < len(prods) {
		for _, p := range prods {
			if saysNew(p) {
				quiet = 0
				continue
			}
			if quiet++; quiet == len(prods) {
				break asking
			}
		}
	}
}

// making tells the productions that make trees: all but those of RoleReject.
func making(g api.Grammar) []api.Prod {
	return slices.DeleteFunc(slices.Clone(g.Prods), func(p api.Prod) bool { return p.Role == api.RoleReject })
}

// living tells the productions that stand in some tree: those all of whose sorts have a text.
func living(g api.Grammar) []api.Prod {
	has := productive(g)
	return slices.DeleteFunc(making(g), func(p api.Prod) bool {
		return slices.ContainsFunc(p.Right, func(s api.Sym) bool { return s.Kind == api.SymSort && !has[s.Sort] })
	})
}

// mark marks a sort, and tells whether that is new.
func mark(marked []bool, sort int) bool {
	old := marked[sort]
	marked[sort] = true
	return !old
}

// productive tells of each sort whether it has a text.
func productive(g api.Grammar) []bool {
	has := make([]bool, len(g.Sorts))
	settle(making(g), func(p api.Prod) bool {
		lacks := slices.ContainsFunc(p.Right, func(s api.Sym) bool { return s.Kind == api.SymSort && !has[s.Sort] })
		return !lacks && mark(has, p.Left)
	})
	return has
}

// reached tells of each sort whether the Start leads to it, be it by productions that stand in no tree.
func reached(g api.Grammar) []bool {
	met := make([]bool, len(g.Sorts))
	met[g.Start] = true
	settle(making(g), func(p api.Prod) bool {
		news := false
		for _, s := range p.Right {
			if met[p.Left] && s.Kind == api.SymSort && mark(met, s.Sort) {
				news = true
			}
		}
		return news
	})
	return met
}

// nullable tells of each sort whether the empty text is one of its.
func nullable(g api.Grammar) []bool {
	empty := make([]bool, len(g.Sorts))
	settle(making(g), func(p api.Prod) bool {
		filled := slices.ContainsFunc(p.Right, func(s api.Sym) bool { return s.Kind == api.SymSet || !empty[s.Sort] })
		return !filled && mark(empty, p.Left)
	})
	return empty
}
