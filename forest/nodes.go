package forest

import (
	"iter"

	"rosetta/api"
)

// node is a sort, from a place until another one.
type node struct {
	sort, from, until int
}

// run is a part of a list: from one number on until ahead of another one.
type run struct {
	first, behind int
}

// symbol is the at-th symbol of a production, from 1 on. (A zero one is none: nothing is forbidden there.)
type symbol struct {
	prod, at int
}

// seat is a symbol of an alternative that is a sort: at is 0 for the first symbol.
type seat struct {
	alt, at int
}

// stand is what a list has of a node: its bunches, and the seats where trees of the node are to sit.
type stand struct {
	bunches run
	seats   []seat
}

// bunch is the alternatives of a node by one production, which stand side by side in a list. What may stand at a seat is told by productions, so that it is one thing for all of them.
type bunch struct {
	number, prod int
	alts         run
	stand        *stand
}

// forest is a list of alternatives of a grammar's, by their nodes.
type forest struct {
	prods     []api.Prod
	alts      []api.Alt
	forbidden map[api.Forbid]struct{}
	nodes     map[node]*stand
	bunches   []*bunch
	of        []*bunch // by alternatives' numbers
}

// forestOf tells the forest of a list.
func forestOf(g api.Grammar, alts []api.Alt) *forest {
	f := &forest{prods: g.Prods, alts: alts, forbidden: map[api.Forbid]struct{}{}, nodes: map[node]*stand{}}
	for _, x := range g.Forbid {
		f.forbidden[x] = struct{}{}
	}
	for alt := range alts {
		f.put(alt)
	}
	for alt := range alts {
		for at, kid := range f.kidsOf(alt) {
			if s := f.nodes[kid]; s != nil {
				s.seats = append(s.seats, seat{alt, at})
			}
		}
	}
	return f
}

// put puts the next alternative of the list to its bunch.
func (f *forest) put(alt int) {
	n, prod := f.nodeOf(alt), f.alts[alt].Prod
	s := f.nodes[n]
	if s == nil {
		s = &stand{bunches: run{first: len(f.bunches), behind: len(f.bunches)}}
		f.nodes[n] = s
	}
	last := len(f.bunches) - 1
	if s.bunches.behind == s.bunches.first || f.bunches[last].prod != prod {
		f.bunches = append(f.bunches, &bunch{number: last + 1, prod: prod, alts: run{first: alt}, stand: s})
		last++
		s.bunches.behind++
	}
	f.bunches[last].alts.behind = alt + 1
	f.of = append(f.of, f.bunches[last])
}

// nodeOf tells the node of an alternative.
func (f *forest) nodeOf(alt int) node {
	a := f.alts[alt]
	return node{a.Sort, a.From, a.Until}
}

// bunchesOf tells the bunches of a node, by rising productions; none of a node that is not there.
func (f *forest) bunchesOf(n node) []*bunch {
	s := f.nodes[n]
	if s == nil {
		return nil
	}
	return f.bunches[s.bunches.first:s.bunches.behind]
}

// kidsOf goes over the seats of an alternative, with the nodes whose trees sit there.
func (f *forest) kidsOf(alt int) iter.Seq2[int, node] {
	return func(yield func(int, node) bool) {
		a := f.alts[alt]
		from := a.From
		for at, s := range f.prods[a.Prod].Right {
			if s.Kind == api.SymSort && !yield(at, node{s.Sort, from, a.Cuts[at]}) {
				return
			}
			from = a.Cuts[at]
		}
	}
}

// fits tells whether trees of a bunch may sit at a seat of their node.
func (f *forest) fits(b *bunch, s seat) bool {
	return f.mayStand(b.prod, symbol{f.alts[s.alt].Prod, s.at + 1})
}

// mayStand tells whether a production may stand at a symbol.
func (f *forest) mayStand(prod int, s symbol) bool {
	_, forbidden := f.forbidden[api.Forbid{Parent: s.prod, At: s.at, Child: prod}]
	return !forbidden
}

// length tells how many bytes an alternative's text has.
func (f *forest) length(alt int) int {
	return f.alts[alt].Until - f.alts[alt].From
}

// byAlternatives tells a list for each alternative, with a thing for each of its symbols.
func byAlternatives[T any](f *forest) [][]T {
	total := 0
	for _, a := range f.alts {
		total += len(a.Cuts)
	}
	room := make([]T, total)
	lists := make([][]T, len(f.alts))
	for alt, a := range f.alts {
		symbols := len(a.Cuts)
		lists[alt] = room[:symbols:symbols]
		room = room[symbols:]
	}
	return lists
}
