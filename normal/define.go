package normal

import (
	"maps"
	"slices"

	"rosetta/api"
	"rosetta/modules"
)

// tally counts the productions of sorts.
type tally map[string]int

// has tells whether a sort has productions.
func (t tally) has(sort string) bool {
	return t[sort] > 0
}

// definition is a module put in order, and its sorts: those that have lexical productions, those that have syntax ones.
type definition struct {
	api.Module
	lexical, syntax tally
}

// definitionOf tells the definition that a module is, if it is one: in new memory.
func definitionOf(m api.Module) (definition, bool) {
	ordered, e := modules.Rename(m) // by no renaming it is put in order alone
	if e != api.OK || len(m.Imports) > 0 {
		return definition{}, false
	}
	return describe(ordered), true
}

// describe tells a module with its sorts.
func describe(m api.Module) definition {
	d := definition{m, tally{}, tally{}}
	for _, p := range m.Prods {
		if p.Lexical {
			d.lexical[p.Sort]++
		} else {
			d.syntax[p.Sort]++
		}
	}
	return d
}

// has tells whether a sort has productions, of either kind.
func (d definition) has(sort string) bool {
	return d.lexical.has(sort) || d.syntax.has(sort)
}

// sorts tells the sorts that have productions, rising.
func (d definition) sorts() []string {
	both := maps.Clone(d.lexical)
	maps.Copy(both, d.syntax)
	return slices.Sorted(maps.Keys(both))
}

// nameOf tells the constructor of a production.
func nameOf(p api.DefProd) api.DefName {
	return api.DefName{Sort: p.Sort, Cons: p.Cons}
}

// named tells the constructors that priorities and scopes name.
func (d definition) named() []api.DefName {
	var out []api.DefName
	for _, p := range d.Prios {
		for _, g := range p.Groups {
			out = append(out, g.Names...)
		}
	}
	for _, s := range d.Scopes {
		out = append(out, s.Of)
	}
	return out
}
