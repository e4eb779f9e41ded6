package glr

import (
	"slices"

	"rosetta/api"
	"rosetta/tables"
)

// node is a state at a place.
type node struct {
	state, place int
}

// edge leads from one node to another one, by their numbers.
type edge struct {
	from, to int
}

// stack is the stack of a text. It grows place by place: once one is gone over, no edge is led there any more.
type stack struct {
	prods    []api.Prod
	tables   *tables.Tables
	complete [][]int // by states, the productions that are complete there
	text     string
	budget   int
	tell     func(api.Alt)

	steps  int
	nodes  []node  // by their numbers, as they are met
	froms  [][]int // by nodes' numbers, those of the nodes from which edges lead there
	places [][]int // by places, the numbers of the nodes there
	last   front
}

// front is what is known of the last place alone.
type front struct {
	place   int
	numbers map[node]int      // of its nodes
	edges   map[edge]struct{} // those that lead there
	came    []edge            // the same, as they came
	inner   []edge            // those of them that begin there, too
}

// stackOf tells a stack that has its first node alone.
func stackOf(g api.Grammar, t *tables.Tables, text string, budget int, tell func(api.Alt)) *stack {
	s := &stack{prods: g.Prods, tables: t, text: text, budget: budget, tell: tell}
	for state := range t.States() {
		s.complete = append(s.complete, t.Reduces(state))
	}
	s.begin()
	s.number(t.Start())
	return s
}

// begin goes on to the next place.
func (s *stack) begin() {
	s.last = front{place: len(s.places), numbers: map[node]int{}, edges: map[edge]struct{}{}}
	s.places = append(s.places, nil)
}

// number tells the number of a state's node at the last place: a new one, if it was not met.
func (s *stack) number(state int) int {
	n := node{state, s.last.place}
	number, met := s.last.numbers[n]
	if !met {
		number = len(s.nodes)
		s.last.numbers[n] = number
		s.nodes = append(s.nodes, n)
		s.froms = append(s.froms, nil)
		s.places[n.place] = append(s.places[n.place], number)
	}
	return number
}

// link leads an edge from a node to that of a state at the last place, if it is not there.
func (s *stack) link(from, state int) {
	e := edge{from, s.number(state)}
	if _, there := s.last.edges[e]; there {
		return
	}
	s.step()
	s.last.edges[e] = struct{}{}
	s.last.came = append(s.last.came, e)
	if s.nodes[from].place == s.last.place {
		s.last.inner = append(s.last.inner, e)
	}
	s.froms[e.to] = append(s.froms[e.to], from)
}

// step counts an edge or an alternative.
func (s *stack) step() {
	if s.steps == s.budget {
		panic(tooMany{})
	}
	s.steps++
}

// grow reads the text as far as it goes.
func (s *stack) grow() {
	for s.reaches(s.last.place) {
		s.settle()
		s.tellWays()
		if s.last.place == len(s.text) {
			break
		}
		s.shift()
	}
}

// at tells the numbers of the nodes at a place.
func (s *stack) at(place int) []int {
	if place < len(s.places) {
		return s.places[place]
	}
	return nil
}

// reaches tells whether there is a node at a place.
func (s *stack) reaches(place int) bool {
	return len(s.at(place)) > 0
}

// far tells the greatest place at which there is a node.
func (s *stack) far() int {
	if s.reaches(s.last.place) {
		return s.last.place
	}
	return s.last.place - 1 // the text was read on to a place that has none
}

// shift leads edges over the byte at the last place to the next one.
func (s *stack) shift() {
	place := s.last.place
	s.begin()
	for _, n := range s.places[place] {
		if to, leads := s.tables.Shift(s.nodes[n].state, s.text[place]); leads {
			s.link(n, to)
		}
	}
}

// settle leads all edges over sorts to the last place. What stands behind an edge that begins there, too, may still grow: such edges are gone back from again, till nothing is new.
func (s *stack) settle() {
	nodes, edges := 0, 0 // so many were gone back from
again:
	steps := s.steps
	for ; nodes < len(s.places[s.last.place]); nodes++ {
		s.linkEmpty(s.places[s.last.place][nodes])
	}
	for ; edges < len(s.last.came); edges++ {
		s.linkLast(s.last.came[edges])
	}
	for _, e := range s.last.inner {
		s.linkLast(e)
	}
	if s.steps > steps {
		goto again
	}
	for _, n := range s.places[s.last.place] {
		slices.Sort(s.froms[n])
	}
}

// linkEmpty leads edges over sorts from a node at the last place, by productions of no symbols.
func (s *stack) linkEmpty(n int) {
	for _, prod := range s.complete[s.nodes[n].state] {
		if len(s.prods[prod].Right) == 0 {
			s.linkOver(prod, n)
		}
	}
}

// linkLast leads edges over sorts, by productions on whose ways an edge to the last place is the last one.
func (s *stack) linkLast(e edge) {
	for _, prod := range s.complete[s.nodes[e.to].state] {
		if symbols := len(s.prods[prod].Right); symbols > 0 {
			froms := []int{e.from}
			for range symbols - 1 {
				froms = s.behind(froms)
			}
			s.linkOver(prod, froms...)
		}
	}
}

// linkOver leads edges over a production's sort from nodes to the last place, where their states lead on by it.
func (s *stack) linkOver(prod int, froms ...int) {
	for _, from := range froms {
		if to, leads := s.tables.Goto(s.nodes[from].state, s.prods[prod].Left); leads {
			s.link(from, to)
		}
	}
}
