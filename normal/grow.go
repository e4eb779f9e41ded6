package normal

import (
	"cmp"
	"maps"
	"slices"

	"rosetta/api"
	"rosetta/sets"
)

// The sorts that stand ahead of the definition's: no name of a definition's is like theirs.
const (
	startSort = "<start>"
	gapSort   = "<gap>"
)

// grower grows a kernel grammar: its sorts are there, its productions are numbered as they come.
type grower struct {
	api.Grammar
	numbers map[string]int // of the sorts, by name
	gap     []api.Sym      // what stands between two symbols: nothing without a Layout
}

// grown tells a definition's kernel grammar, but for what may not be.
func (d definition) grown() *grower {
	made := d.madeSorts()
	g := &grower{numbers: map[string]int{}}
	g.addSorts(startSort)
	if d.Layout != "" {
		g.addSorts(gapSort)
		g.gap = []api.Sym{g.sort(gapSort)}
	}
	g.addSorts(d.sorts()...)
	g.addSorts(slices.Sorted(maps.Keys(made))...)
	g.growWhole(d)
	for _, number := range bySort(d.Prods) {
		g.growOwn(number, d.Prods[number])
	}
	for _, name := range slices.Sorted(maps.Keys(made)) {
		made[name](g)
	}
	return g
}

// addSorts numbers sorts behind those that are there.
func (g *grower) addSorts(names ...string) {
	for _, name := range names {
		g.numbers[name] = len(g.Sorts)
		g.Sorts = append(g.Sorts, name)
	}
}

// isLong tells whether the grammar is longer than one may be. (Each sort has a production, so there are no more sorts than these.)
func (g *grower) isLong() bool {
	return len(g.Prods) > api.MaxProds ||
		slices.ContainsFunc(g.Prods, func(p api.Prod) bool { return len(p.Right) > api.MaxRight })
}

// sort tells the symbol that is a sort.
func (g *grower) sort(name string) api.Sym {
	return api.Sym{Kind: api.SymSort, Sort: g.numbers[name]}
}

// symbol tells the symbol that is one of a definition's production, which is lexical, or not.
func (g *grower) symbol(s api.DefSym, lexical bool) api.Sym {
	if s.Is == api.DefSet && s.Many == api.ManyOne {
		return api.Sym{Kind: api.SymSet, Set: s.Set}
	}
	return g.sort(sortName(s, lexical))
}

// row tells symbols in a row, in new memory: with gaps between, but in what is lexical.
func (g *grower) row(lexical bool, symbols ...api.Sym) []api.Sym {
	var out []api.Sym
	for i, s := range symbols {
		if i > 0 && !lexical {
			out = append(out, g.gap...)
		}
		out = append(out, s)
	}
	return out
}

// grow adds a production that is made.
func (g *grower) grow(left string, role api.Role, right ...api.Sym) {
	g.Prods = append(g.Prods, api.Prod{Left: g.numbers[left], Right: right, Role: role, From: -1})
}

// growWhole adds the productions of what stands around the definition's sorts, and between them.
func (g *grower) growWhole(d definition) {
	g.grow(startSort, api.RoleStart, slices.Concat(g.gap, []api.Sym{g.sort(d.Start)}, g.gap)...)
	if d.Layout != "" {
		g.grow(gapSort, api.RoleGap)
		g.grow(gapSort, api.RoleLayout, g.sort(d.Layout))
	}
}

// growOwn adds the production that the definition's own one of that number is.
func (g *grower) growOwn(number int, p api.DefProd) {
	own := api.Prod{Left: g.numbers[p.Sort], Cons: p.Cons, Role: roleOf(p), Prefer: p.Prefer, Avoid: p.Avoid, From: number}
	if p.Reject {
		own.Right = rejected(p.Right)
	} else {
		var symbols []api.Sym
		for _, s := range p.Right {
			symbols = append(symbols, g.symbol(s, p.Lexical))
		}
		own.Right = g.row(p.Lexical, symbols...)
	}
	g.Prods = append(g.Prods, own)
}

// roleOf tells the role of what a definition's production becomes.
func roleOf(p api.DefProd) api.Role {
	switch {
	case p.Reject:
		return api.RoleReject
	case p.Lexical:
		return api.RoleLexical
	case p.Cons != "":
		return api.RoleCons
	}
	return api.RoleInject
}

// rejected tells the symbols of a rejecting production: its literals byte by byte, and its sets.
func rejected(right []api.DefSym) []api.Sym {
	var out []api.Sym
	for _, s := range right {
		if s.Is == api.DefLit {
			out = append(out, bytesOf(s.Text)...)
		} else {
			out = append(out, api.Sym{Kind: api.SymSet, Set: s.Set})
		}
	}
	return out
}

// bytesOf tells a text's bytes as symbols.
func bytesOf(text string) []api.Sym {
	var out []api.Sym
	for _, b := range []byte(text) {
		out = append(out, api.Sym{Kind: api.SymSet, Set: sets.Of(b)})
	}
	return out
}

// bySort tells the numbers of productions by their sorts, those of one sort in order.
func bySort(prods []api.DefProd) []int {
	var numbers []int
	for number := range prods {
		numbers = append(numbers, number)
	}
	slices.SortStableFunc(numbers, func(a, b int) int { return cmp.Compare(prods[a].Sort, prods[b].Sort) })
	return numbers
}
