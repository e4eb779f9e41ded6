package glr

import (
	"cmp"
	"slices"

	"rosetta/api"
)

// behind tells the nodes from which edges lead to some nodes, each once.
func (s *stack) behind(nodes []int) []int {
	if len(nodes) == 1 {
		return s.froms[nodes[0]]
	}
	var froms []int
	for _, n := range nodes {
		froms = append(froms, s.froms[n]...)
	}
	slices.Sort(froms)
	return slices.Compact(froms)
}

// tellWays tells the alternatives that end at the last place.
func (s *stack) tellWays() {
	ends := map[int][]int{} // by productions, the nodes in whose states they are complete
	for _, n := range s.places[s.last.place] {
		for _, prod := range s.complete[s.nodes[n].state] {
			ends[prod] = append(ends[prod], n)
		}
	}
	for prod, nodes := range ends { // in any order: they are sorted when all are there
		s.goBack(prod, nodes)
	}
}

// goBack tells the alternatives of a production that end at some nodes of one place: all ways back from these, but those that go by the same places at once, so that each is told once.
func (s *stack) goBack(prod int, ends []int) {
	p := s.prods[prod]
	alt := api.Alt{Sort: p.Left, Until: s.last.place, Prod: prod, Cuts: make([]int, len(p.Right))}
	var back func(nodes []int, symbols int)
	back = func(nodes []int, symbols int) {
		place := s.nodes[nodes[0]].place
		if symbols == 0 {
			alt.From = place
			s.step()
			s.tell(alt)
			return
		}
		alt.Cuts[symbols-1] = place
		for froms := s.behind(nodes); len(froms) > 0; {
			together := s.together(froms)
			back(froms[:together], symbols-1)
			froms = froms[together:]
		}
	}
	back(ends, len(p.Right))
}

// together tells how many of some nodes, of which there are some, are at the place of the first one. They stand in the order of their places.
func (s *stack) together(nodes []int) int {
	place := s.nodes[nodes[0]].place
	for i, n := range nodes {
		if s.nodes[n].place != place {
			return i
		}
	}
	return len(nodes)
}

// inOrder sorts alternatives by Sort, From, Until, Prod, Cuts.
func inOrder(alts []api.Alt) {
	slices.SortFunc(alts, func(a, b api.Alt) int {
		if c := cmp.Or(a.Sort-b.Sort, a.From-b.From, a.Until-b.Until, a.Prod-b.Prod); c != 0 {
			return c
		}
		return slices.Compare(a.Cuts, b.Cuts)
	})
}
