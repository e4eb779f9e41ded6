package kernel

import "rosetta/api"

// productive tells of each sort whether it is productive.
func productive(g api.Grammar) []bool {
	live := make([]bool, len(g.Sorts))
search:
	for {
		for _, p := range g.Prods {
			if !live[p.Left] && p.Role != api.RoleReject && eachSort(p, func(s int) bool { return live[s] }) {
				live[p.Left] = true
				continue search // a production ahead of this one may wait for the sort
			}
		}
		return live
	}
}

// reached tells of each sort whether it is reached from the Start, by productions alone whose sorts are all live. (Those of RoleReject lead nowhere: they have sets alone.)
func reached(g api.Grammar, live []bool) []bool {
	met := make([]bool, len(g.Sorts))
	var visit func(sort int)
	visit = func(sort int) {
		if met[sort] {
			return
		}
		met[sort] = true
		for _, p := range g.Prods {
			if p.Left != sort || !eachSort(p, func(s int) bool { return live[s] }) {
				continue
			}
			for _, s := range p.Right {
				if s.Kind == api.SymSort {
					visit(s.Sort)
				}
			}
		}
	}
	visit(g.Start)
	return met
}

// gone is the place of what is left out.
const gone = -1

// places are the new numbers of sorts, or of productions, by their old ones.
type places [api.MaxProds]int

// placesOf tells the places of so many things, some of which stay, in order.
func placesOf(count int, stays func(number int) bool) *places {
	var to places
	next := 0
	for number := range count {
		to[number] = gone
		if stays(number) {
			to[number] = next
			next++
		}
	}
	return &to
}

// kept tells a grammar of which some sorts stay, the Start among them, with the productions that have none but these.
func kept(g api.Grammar, stays []bool) api.Grammar {
	isKept := func(sort int) bool { return stays[sort] }
	sorts := placesOf(len(g.Sorts), isKept)
	prods := placesOf(len(g.Prods), func(number int) bool {
		p := g.Prods[number]
		return isKept(p.Left) && eachSort(p, isKept)
	})
	out := api.Grammar{Start: sorts[g.Start]}
	for number, name := range g.Sorts {
		if sorts[number] != gone {
			out.Sorts = append(out.Sorts, name)
		}
	}
	for number, p := range g.Prods {
		if prods[number] != gone {
			out.Prods = append(out.Prods, movedProd(p, sorts))
		}
	}
	for _, f := range g.Forbid {
		if f.Parent, f.Child = prods[f.Parent], prods[f.Child]; f.Parent != gone && f.Child != gone {
			out.Forbid = append(out.Forbid, f)
		}
	}
	for _, f := range g.Follow {
		if f.Sort = sorts[f.Sort]; f.Sort != gone {
			out.Follow = append(out.Follow, f)
		}
	}
	return out
}

// movedProd tells a production, in new memory, whose sorts stand at other places.
func movedProd(p api.Prod, sorts *places) api.Prod {
	right := append([]api.Sym(nil), p.Right...)
	for i, s := range right {
		if s.Kind == api.SymSort {
			right[i].Sort = sorts[s.Sort]
		}
	}
	p.Left, p.Right = sorts[p.Left], right
	return p
}
