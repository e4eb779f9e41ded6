package normal

import (
	"cmp"
	"iter"
	"maps"
	"slices"

	"rosetta/api"
	"rosetta/deftext"
)

// forbids tells which productions may not stand in which, as priorities and orders say it.
func (g *grower) forbids(d definition) []api.Forbid {
	found := map[api.Forbid]struct{}{}
	numbers := g.constructors()
	forbid := func(parent, child api.DefName, where func(at, last int) bool) {
		right := g.Prods[numbers[parent]].Right
		for i, s := range right {
			if s == g.sort(child.Sort) && where(i+1, len(right)) {
				found[api.Forbid{Parent: numbers[parent], At: i + 1, Child: numbers[child]}] = struct{}{}
			}
		}
	}
	for _, prio := range d.Prios {
		for p, q := range stronger(prio) {
			forbid(p, q, func(int, int) bool { return true })
		}
		for _, group := range prio.Groups {
			for p, q := range alike(group) {
				forbid(p, q, sideOf(group.Assoc))
			}
		}
	}
	for _, p := range d.Prods {
		if p.Cons != "" {
			forbid(nameOf(p), nameOf(p), sideOf(p.Assoc))
		}
	}
	return slices.SortedFunc(maps.Keys(found), func(a, b api.Forbid) int {
		return cmp.Or(cmp.Compare(a.Parent, b.Parent), cmp.Compare(a.At, b.At), cmp.Compare(a.Child, b.Child))
	})
}

// constructors tells the numbers of the productions that have one.
func (g *grower) constructors() map[api.DefName]int {
	numbers := map[api.DefName]int{}
	for number, p := range g.Prods {
		if p.Role == api.RoleCons {
			numbers[api.DefName{Sort: g.Sorts[p.Left], Cons: p.Cons}] = number
		}
	}
	return numbers
}

// sideOf tells where in a production those may not stand that are ordered so with it.
func sideOf(a api.Assoc) func(at, last int) bool {
	return func(at, last int) bool {
		switch a {
		case api.AssocLeft:
			return at == last
		case api.AssocRight:
			return at == 1
		case api.AssocNon:
			return at == 1 || at == last
		}
		return false
	}
}

// stronger goes over each two constructors of a priority the first of which stands in a group ahead of one in which the second stands.
func stronger(p api.DefPrio) iter.Seq2[api.DefName, api.DefName] {
	first, last := map[api.DefName]int{}, map[api.DefName]int{}
	for i, g := range p.Groups {
		for _, name := range g.Names {
			if _, met := first[name]; !met {
				first[name] = i
			}
			last[name] = i
		}
	}
	return func(yield func(p, q api.DefName) bool) {
		for p, ahead := range first {
			for q, behind := range last {
				if ahead < behind && !yield(p, q) {
					return
				}
			}
		}
	}
}

// alike goes over each two constructors of a group, one twice, too.
func alike(g api.DefGroup) iter.Seq2[api.DefName, api.DefName] {
	names := map[api.DefName]struct{}{}
	for _, name := range g.Names {
		names[name] = struct{}{}
	}
	return func(yield func(p, q api.DefName) bool) {
		for p := range names {
			for q := range names {
				if !yield(p, q) {
					return
				}
			}
		}
	}
}

// follows tells what may not stand behind which sorts, as restrictions say it.
func (g *grower) follows(d definition) []api.Follow {
	nots := map[int]api.Set{}
	restrict := func(name string, not api.Set) {
		if sort, there := g.numbers[name]; there && not != (api.Set{}) { // what forbids no byte is none
			nots[sort] = not
		}
	}
	for _, r := range d.Restricts {
		name := r.Name
		if r.Text != "" {
			name = deftext.Quote(r.Text)
		}
		restrict(name, r.Not)
		if name == d.Layout {
			restrict(gapSort, r.Not)
		}
	}
	var out []api.Follow
	for _, sort := range slices.Sorted(maps.Keys(nots)) {
		out = append(out, api.Follow{Sort: sort, Not: nots[sort]})
	}
	return out
}
