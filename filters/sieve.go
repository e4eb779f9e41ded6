package filters

import (
	"iter"

	"rosetta/api"
	"rosetta/forest"
)

// node is a sort, from a place until another one.
type node struct {
	sort, from, until int
}

// nodeOf tells the node of an alternative.
func nodeOf(a api.Alt) node {
	return node{a.Sort, a.From, a.Until}
}

// sieve is a list of alternatives, some of which go.
type sieve struct {
	grammar api.Grammar
	rules   rules
	text    string
	alts    []api.Alt
	why     []api.Gone // by alternatives' numbers
}

// run takes the steps one behind the other. What a step asks of others is asked ahead of it, of all that are left then, so that it doesn't count who of them goes first.
func (s *sieve) run() {
	steps := [...]func(*sieve) func(alt int) bool{
		api.GoneReject: (*sieve).rejected,
		api.GoneFollow: (*sieve).followed,
		api.GoneDead:   (*sieve).dead,
		api.GonePrefer: (*sieve).lessPreferred,
		api.GoneAvoid:  (*sieve).avoided,
	}
	for why := api.GoneReject; why <= api.GoneAvoid; why++ {
		goes := steps[why](s)
		for alt := range s.left() {
			if goes(alt) {
				s.why[alt] = why
			}
		}
	}
}

// left goes over the alternatives that did not go, by their numbers.
func (s *sieve) left() iter.Seq2[int, api.Alt] {
	return func(yield func(int, api.Alt) bool) {
		for alt, a := range s.alts {
			if s.why[alt] == api.GoneNot && !yield(alt, a) {
				return
			}
		}
	}
}

// rejected tells whose text is rejected.
func (s *sieve) rejected() func(alt int) bool {
	return func(alt int) bool {
		a := s.alts[alt]
		return s.rules.rejects(a.Sort, s.text[a.From:a.Until])
	}
}

// followed tells behind whom something stands that may not.
func (s *sieve) followed() func(alt int) bool {
	return func(alt int) bool {
		a := s.alts[alt]
		return s.rules.bars(a.Sort, s.text[a.Until:])
	}
}

// dead tells who has no tree over what is left. (A part of a list is one, so that it can't be refused.)
func (s *sieve) dead() func(alt int) bool {
	var left []api.Alt
	var numbers []int
	for alt, a := range s.left() {
		left = append(left, a)
		numbers = append(numbers, alt)
	}
	alive, _ := forest.Alive(s.grammar, left)
	dead := make([]bool, len(s.alts))
	for i, is := range alive {
		dead[numbers[i]] = !is
	}
	return func(alt int) bool { return dead[alt] }
}

// lessPreferred tells who stands beside one that is preferred, and is not.
func (s *sieve) lessPreferred() func(alt int) bool {
	return s.outdone(func(p api.Prod) bool { return p.Prefer })
}

// avoided tells who is avoided, and stands beside one that is not.
func (s *sieve) avoided() func(alt int) bool {
	return s.outdone(func(p api.Prod) bool { return !p.Avoid })
}

// outdone tells whose production is not good, while that of another one of the same node is.
func (s *sieve) outdone(good func(api.Prod) bool) func(alt int) bool {
	isGood := func(alt int) bool { return good(s.grammar.Prods[s.alts[alt].Prod]) }
	best := map[node]struct{}{}
	for alt, a := range s.left() {
		if isGood(alt) {
			best[nodeOf(a)] = struct{}{}
		}
	}
	return func(alt int) bool {
		_, has := best[nodeOf(s.alts[alt])]
		return has && !isGood(alt)
	}
}
