package normal

import (
	"rosetta/api"
	"rosetta/deftext"
	"rosetta/sets"
)

// made are the sorts that are made of symbols, by name: each with what makes its productions.
type made map[string]func(*grower)

// madeSorts tells the sorts that a definition's productions ask for. (Rejecting ones ask for none: they have bytes alone.)
func (d definition) madeSorts() made {
	m := made{}
	for _, p := range d.Prods {
		for _, s := range p.Right {
			if !p.Reject {
				m.ask(s, p.Lexical)
			}
		}
	}
	return m
}

// ask adds the sorts that a symbol needs: its own, if that is a made one, and those that stand in it.
func (m made) ask(s api.DefSym, lexical bool) {
	name, x := sortName(s, lexical), once(s)
	switch s.Many {
	case api.ManyOne:
		if s.Is == api.DefLit {
			m[name] = func(g *grower) { g.grow(name, api.RoleLiteral, bytesOf(s.Text)...) }
		}
		return
	case api.ManyOpt:
		m[name] = func(g *grower) { g.growOption(name, g.symbol(x, lexical)) }
	case api.ManyStar:
		some := s
		some.Many = api.ManyPlus
		m[name] = func(g *grower) { g.growOption(name, g.symbol(some, lexical)) }
		m.ask(some, lexical)
	case api.ManyPlus:
		m[name] = func(g *grower) { g.growList(name, s, lexical) }
		if s.Sep != "" {
			m.ask(literal(s.Sep), lexical)
		}
	}
	m.ask(x, lexical)
}

// growOption adds the productions of what there may be, or not.
func (g *grower) growOption(name string, some api.Sym) {
	g.grow(name, api.RoleNone)
	g.grow(name, api.RoleSome, some)
}

// growList adds the productions of a list that is not empty.
func (g *grower) growList(name string, s api.DefSym, lexical bool) {
	x := g.symbol(once(s), lexical)
	more := []api.Sym{g.sort(name)}
	if s.Sep != "" {
		more = append(more, g.symbol(literal(s.Sep), lexical))
	}
	g.grow(name, api.RoleOne, x)
	g.grow(name, api.RoleMore, g.row(lexical, append(more, x)...)...)
}

// once tells what a symbol is that stands as often as this one does.
func once(s api.DefSym) api.DefSym {
	s.Many, s.Sep = api.ManyOne, ""
	return s
}

// literal tells the symbol that is a literal.
func literal(text string) api.DefSym {
	return api.DefSym{Is: api.DefLit, Text: text}
}

// sortName tells the name of the sort that a symbol is. A list in what is lexical is another sort than elsewhere, as it has no gaps; options are told apart likewise.
func sortName(s api.DefSym, lexical bool) string {
	if s.Many == api.ManyOne {
		return onceName(s)
	}
	signs := [...]string{api.ManyOpt: "?", api.ManyStar: "*", api.ManyPlus: "+"}
	name := onceName(s) + signs[s.Many]
	if lexical {
		name = "~" + name
	}
	if s.Sep != "" {
		name += deftext.Quote(s.Sep)
	}
	return name
}

// onceName tells how a symbol is told that stands once.
func onceName(s api.DefSym) string {
	switch s.Is {
	case api.DefLit:
		return deftext.Quote(s.Text)
	case api.DefSet:
		return sets.Text(s.Set)
	}
	return s.Name
}
