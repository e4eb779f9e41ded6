package facts

import "rosetta/api"

// lead is a step from a sort to one that may be all of it, in its text.
type lead struct {
	from, to int
}

// leads tells which sorts lead to which.
func leads(g api.Grammar) map[lead]struct{} {
	empty := nullable(g)
	out := map[lead]struct{}{}
	for _, p := range living(g) {
		for i, s := range p.Right {
			if s.Kind == api.SymSort && isAlone(p, i, empty) {
				out[lead{p.Left, s.Sort}] = struct{}{}
			}
		}
	}
	return out
}

// isAlone tells whether all symbols of a production but one may be empty.
func isAlone(p api.Prod, but int, empty []bool) bool {
	for i, s := range p.Right {
		if i != but && (s.Kind == api.SymSet || !empty[s.Sort]) {
			return false
		}
	}
	return true
}

// circular tells of each sort whether it leads back to itself.
func circular(g api.Grammar) []bool {
	next := make([][]int, len(g.Sorts))
	for l := range leads(g) { // in any order: what is met from a sort on is the same
		next[l.from] = append(next[l.from], l.to)
	}
	out := make([]bool, len(g.Sorts))
	for sort := range out {
		out[sort] = comesBack(next, sort)
	}
	return out
}

// comesBack tells whether steps lead from a sort back to it.
func comesBack(next [][]int, from int) bool {
	met := make([]bool, len(next))
	var visit func(sort int)
	visit = func(sort int) {
		for _, to := range next[sort] {
			if mark(met, to) {
				visit(to)
			}
		}
	}
	visit(from)
	return met[from]
}
