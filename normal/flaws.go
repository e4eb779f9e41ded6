package normal

import (
	"slices"

	"rosetta/api"
	"rosetta/deftext"
	"rosetta/kernel"
	"rosetta/modules"
	"rosetta/sets"
)

// flawsOf tells the flaws of an error by what they are of, in order, each once.
func flawsOf(err api.Errno, lists ...[]string) []api.Flaw {
	var out []api.Flaw
	of := slices.Concat(lists...)
	slices.Sort(of)
	for _, name := range slices.Compact(of) {
		out = append(out, api.Flaw{Err: err, Of: name})
	}
	return out
}

// flaws tells what is wrong with a definition, as far as its kernel grammar is not asked.
func (d definition) flaws() []api.Flaw {
	prods := func(wrong func(api.DefProd) bool) []string {
		var of []string
		for _, p := range d.Prods {
			if wrong(p) {
				of = append(of, deftext.Prod(p))
			}
		}
		return of
	}
	sorts := func(all []string, wrong func(sort string) bool) []string {
		return slices.DeleteFunc(slices.Clone(all), func(sort string) bool { return !wrong(sort) })
	}
	missing := func(sort string) bool { return !d.has(sort) }
	mixed := func(sort string) bool { return d.lexical.has(sort) && d.syntax.has(sort) }
	notLexical := func(sort string) bool { return d.has(sort) && !d.lexical.has(sort) }
	return slices.Concat(
		flawsOf(api.ErrStart, sorts([]string{d.Start}, missing)),
		flawsOf(api.ErrMixed, sorts(d.sorts(), mixed)),
		flawsOf(api.ErrSort, sorts(modules.Sorts(d.Module), func(sort string) bool { return sort != d.Start && missing(sort) })),
		flawsOf(api.ErrLexical, prods(d.isWrongLexical), prods(hasNoByte), sorts([]string{d.Layout}, notLexical), sorts(d.Comments, notLexical)),
		flawsOf(api.ErrReject, prods(isWrongReject)),
		flawsOf(api.ErrCons, prods(isWrongCons), prods(repeats())),
		flawsOf(api.ErrPrio, d.unknown()),
	)
}

// isWrongLexical tells whether a production is a lexical one that may not be.
func (d definition) isWrongLexical(p api.DefProd) bool {
	namesSyntax := func(s api.DefSym) bool { return s.Is == api.DefSort && d.syntax.has(s.Name) }
	return p.Lexical && (p.Cons != "" || len(p.Template) > 0 || p.Bracket || p.Assoc != api.AssocNone ||
		slices.ContainsFunc(p.Right, namesSyntax))
}

// hasNoByte tells whether a symbol of a production is a set of nothing.
func hasNoByte(p api.DefProd) bool {
	return slices.ContainsFunc(p.Right, func(s api.DefSym) bool { return s.Is == api.DefSet && s.Set == sets.Of() })
}

// isWrongReject tells whether a production is a rejecting one that may not be: what it rejects are texts of one length.
func isWrongReject(p api.DefProd) bool {
	mayNotBe := func(s api.DefSym) bool { return s.Is == api.DefSort || s.Many != api.ManyOne }
	return p.Reject && (!p.Lexical || p.Prefer || p.Avoid || slices.ContainsFunc(p.Right, mayNotBe))
}

// isWrongCons tells whether a production is a syntax one that may not be with its constructor, or without one.
func isWrongCons(p api.DefProd) bool {
	switch {
	case p.Lexical:
		return false
	case p.Cons != "":
		return p.Bracket
	}
	var kids []api.DefSym
	for _, s := range p.Right {
		if s.Is != api.DefLit || s.Many != api.ManyOne {
			kids = append(kids, s)
		}
	}
	return len(kids) != 1 || kids[0].Is != api.DefSort || kids[0].Many != api.ManyOne
}

// repeats makes what tells of productions, asked in order, whether an earlier one has the same constructor.
func repeats() func(api.DefProd) bool {
	met := map[api.DefName]struct{}{}
	return func(p api.DefProd) bool {
		if p.Cons == "" {
			return false
		}
		before := len(met)
		met[nameOf(p)] = struct{}{}
		return len(met) == before
	}
}

// unknown tells the constructors that priorities and scopes name, and that no production has.
func (d definition) unknown() []string {
	known := map[api.DefName]struct{}{}
	for _, p := range d.Prods {
		known[nameOf(p)] = struct{}{}
	}
	var of []string
	for _, name := range d.named() {
		if _, is := known[name]; !is {
			of = append(of, name.Sort+"."+name.Cons)
		}
	}
	return of
}

// idle tells the sorts that no tree can be made of: those that are dead; if none is, those that are apart.
func (d definition) idle(g api.Grammar) []api.Flaw {
	if flaws := flawsOf(api.ErrDead, dead(g)); len(flaws) > 0 {
		return flaws
	}
	reached, _ := kernel.Trim(g) // nothing is dead, so all that goes is apart
	return flawsOf(api.ErrApart, slices.DeleteFunc(d.sorts(), func(sort string) bool { return slices.Contains(reached.Sorts, sort) }))
}

// dead tells the sorts of a grammar that are not productive.
func dead(g api.Grammar) []string {
	live := make([]bool, len(g.Sorts))
	waits := func(s api.Sym) bool { return s.Kind == api.SymSort && !live[s.Sort] }
	for more := true; more; {
		more = false
		for _, p := range g.Prods {
			if !live[p.Left] && p.Role != api.RoleReject && !slices.ContainsFunc(p.Right, waits) {
				live[p.Left], more = true, true
			}
		}
	}
	var of []string
	for sort, name := range g.Sorts {
		if !live[sort] {
			of = append(of, name)
		}
	}
	return of
}
