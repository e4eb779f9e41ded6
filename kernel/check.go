package kernel

import (
	"slices"

	"rosetta/api"
)

// maxSortName is how many bytes a sort's name has at most: the names of made sorts tell what they are made of, so they are longer than others.
const maxSortName = 1000

// conditions are what a grammar must be. None leans on another one.
func conditions() []func(api.Grammar) bool {
	return []func(api.Grammar) bool{sortsMayBe, startMayBe, prodsMayBe, forbidsMayBe, followsMayBe}
}

// all tells whether something holds of each thing of a list.
func all[T any](list []T, holds func(T) bool) bool {
	return !slices.ContainsFunc(list, func(x T) bool { return !holds(x) })
}

// eachOnce tells whether no two things of a list are the same.
func eachOnce[T comparable](list []T) bool {
	met := map[T]struct{}{}
	for _, x := range list {
		met[x] = struct{}{}
	}
	return len(met) == len(list)
}

// isNumber tells whether something has a number, if there are so many.
func isNumber(n, count int) bool {
	return 0 <= n && n < count
}

// byName tells sorts' numbers by their names.
func byName(sorts []string) map[string]int {
	numbers := map[string]int{}
	for number, name := range slices.Backward(sorts) { // backward, so that of one name the first sort stays
		numbers[name] = number
	}
	return numbers
}

// sortsMayBe tells whether there are sorts, not too many, of unlike names that may be.
func sortsMayBe(g api.Grammar) bool {
	return 1 <= len(g.Sorts) && len(g.Sorts) <= api.MaxProds &&
		all(g.Sorts, func(name string) bool { return 1 <= len(name) && len(name) <= maxSortName }) &&
		len(byName(g.Sorts)) == len(g.Sorts)
}

// startMayBe tells whether the Start is a sort's number.
func startMayBe(g api.Grammar) bool {
	return isNumber(g.Start, len(g.Sorts))
}

// prodsMayBe tells whether there are not too many productions, each of which may be.
func prodsMayBe(g api.Grammar) bool {
	return len(g.Prods) <= api.MaxProds && all(g.Prods, func(p api.Prod) bool { return prodMayBe(p, len(g.Sorts)) })
}

// prodMayBe tells whether a production may be, if there are so many sorts.
func prodMayBe(p api.Prod, sorts int) bool {
	return isNumber(p.Left, sorts) && len(p.Right) <= api.MaxRight &&
		all(p.Right, func(s api.Sym) bool { return symMayBe(s, sorts) }) &&
		roleMayBe(p) && p.From >= -1 && !(p.Prefer && p.Avoid)
}

// roleMayBe tells whether a production's role is one, and may be that of its constructor and its symbols.
func roleMayBe(p api.Prod) bool {
	switch {
	case p.Role < api.RoleCons, p.Role > api.RoleReject:
		return false
	case p.Role == api.RoleCons:
		return len(p.Cons) <= api.MaxName
	case p.Role == api.RoleReject && !eachSort(p, func(int) bool { return false }):
		return false
	}
	return p.Cons == ""
}

// symMayBe tells whether a symbol may be, if there are so many sorts: what its kind has no use for is zero.
func symMayBe(s api.Sym, sorts int) bool {
	switch s.Kind {
	case api.SymSet:
		return s.Set != api.Set{} && s.Sort == 0
	case api.SymSort:
		return s.Set == api.Set{} && isNumber(s.Sort, sorts)
	}
	return false
}

// eachSort tells whether something holds of each sort that stands among a production's symbols.
func eachSort(p api.Prod, holds func(sort int) bool) bool {
	return all(p.Right, func(s api.Sym) bool { return s.Kind != api.SymSort || holds(s.Sort) })
}

// forbidsMayBe tells whether what is forbidden may be, each once.
func forbidsMayBe(g api.Grammar) bool {
	return eachOnce(g.Forbid) && all(g.Forbid, func(f api.Forbid) bool {
		if !isNumber(f.Parent, len(g.Prods)) || !isNumber(f.Child, len(g.Prods)) {
			return false
		}
		return forbidMayBe(g.Prods[f.Parent], f.At, g.Prods[f.Child])
	})
}

// forbidMayBe tells whether a production could stand as the at-th symbol of another one, so that it may be forbidden.
func forbidMayBe(parent api.Prod, at int, child api.Prod) bool {
	if parent.Role == api.RoleReject || child.Role == api.RoleReject || !isNumber(at-1, len(parent.Right)) {
		return false
	}
	s := parent.Right[at-1]
	return s.Kind == api.SymSort && s.Sort == child.Left
}

// followsMayBe tells whether what may not follow may be, of each sort once.
func followsMayBe(g api.Grammar) bool {
	var sorts []int
	for _, f := range g.Follow {
		if !isNumber(f.Sort, len(g.Sorts)) || f.Not == (api.Set{}) {
			return false
		}
		sorts = append(sorts, f.Sort)
	}
	return eachOnce(sorts)
}
