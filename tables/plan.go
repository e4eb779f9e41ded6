package tables

import "rosetta/api"

// plan is a grammar as states are made of it: its symbols are numbers, those of sorts as they are, those of sets behind them.
type plan struct {
	sorts  int
	start  int
	sets   numbering
	rights [][]int // productions' symbols
	prods  [][]int // sorts' productions, rising, but for those of RoleReject
}

// end is what stands behind all symbols of a production.
const end = -1

// planOf tells the plan of a grammar.
func planOf(g api.Grammar) *plan {
	p := &plan{sorts: len(g.Sorts), start: g.Start, sets: numbering{of: map[api.Set]int{}}, prods: make([][]int, len(g.Sorts))}
	for number, prod := range g.Prods {
		var right []int
		for _, s := range prod.Right {
			by := s.Sort
			if s.Kind == api.SymSet {
				by = p.sorts + p.sets.number(s.Set)
			}
			right = append(right, by)
		}
		p.rights = append(p.rights, right)
		if prod.Role != api.RoleReject {
			p.prods[prod.Left] = append(p.prods[prod.Left], number)
		}
	}
	return p
}

// ahead tells the symbol ahead of which an item's Dot stands, or end.
func (p *plan) ahead(it api.Item) int {
	if right := p.rights[it.Prod]; it.Dot < len(right) {
		return right[it.Dot]
	}
	return end
}

// isSort tells whether a symbol is a sort.
func (p *plan) isSort(by int) bool {
	return by != end && by < p.sorts
}

// isSet tells whether a symbol is a set.
func (p *plan) isSet(by int) bool {
	return by >= p.sorts
}

// set tells the set that a symbol is.
func (p *plan) set(by int) api.Set {
	return p.sets.all[by-p.sorts]
}

// numbering numbers sets, from 0 on.
type numbering struct {
	all []api.Set
	of  map[api.Set]int
}

// number tells a set's number: a new one, if it has none.
func (n *numbering) number(s api.Set) int {
	number, met := n.of[s]
	if !met {
		number = len(n.all)
		n.of[s] = number
		n.all = append(n.all, s)
	}
	return number
}
