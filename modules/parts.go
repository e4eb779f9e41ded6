package modules

import (
	"maps"
	"slices"

	"rosetta/api"
	"rosetta/deftext"
	"rosetta/sets"
)

// eachFromOnce tells whether no two renamings are of one sort.
func eachFromOnce(l []api.DefRename) bool {
	return len(byFrom(l)) == len(l)
}

// isRenaming tells whether a list is a renaming.
func isRenaming(l []api.DefRename) bool {
	for _, r := range l {
		if !nameMayBe(r.From) || !nameMayBe(r.To) {
			return false
		}
	}
	return eachFromOnce(l)
}

// byFrom tells renamings by the sorts that they rename.
func byFrom(l []api.DefRename) map[string]api.DefRename {
	out := map[string]api.DefRename{}
	for _, r := range l {
		out[r.From] = r
	}
	return out
}

// renamed tells a module in new memory, its sorts renamed, all at a time.
func renamed(m api.Module, l []api.DefRename) api.Module {
	renames := byFrom(l)
	return withSorts(m, func(sort string) string {
		if r, is := renames[sort]; is {
			return r.To
		}
		return sort
	})
}

// withSorts tells a module in new memory, each sort changed that stands in it. The sorts of an import are those of another module: they stay.
func withSorts(m api.Module, change func(string) string) api.Module {
	m.Imports = each(m.Imports, func(i api.DefImport) api.DefImport {
		i.Renames = fresh(i.Renames)
		return i
	})
	m.Start, m.Layout = change(m.Start), change(m.Layout)
	m.Comments = each(m.Comments, change)
	m.Prods = each(m.Prods, func(d api.DefProd) api.DefProd {
		return prodWithSorts(d, change)
	})
	m.Restricts = each(m.Restricts, func(r api.DefRestrict) api.DefRestrict {
		r.Name = change(r.Name)
		return r
	})
	m.Prios = each(m.Prios, func(p api.DefPrio) api.DefPrio {
		p.Groups = each(p.Groups, func(g api.DefGroup) api.DefGroup {
			g.Names = each(g.Names, func(c api.DefName) api.DefName {
				return consWithSort(c, change)
			})
			return g
		})
		return p
	})
	m.Scopes = each(m.Scopes, func(s api.DefScope) api.DefScope {
		return scopeWithSorts(s, change)
	})
	return m
}

// prodWithSorts is as withSorts, of a production.
func prodWithSorts(d api.DefProd, change func(string) string) api.DefProd {
	d.Sort = change(d.Sort)
	d.Right = each(d.Right, func(s api.DefSym) api.DefSym {
		if s.Is == api.DefSort {
			s.Name = change(s.Name)
		}
		return s
	})
	d.Template = fresh(d.Template)
	return d
}

// consWithSort is as withSorts, of a constructor.
func consWithSort(c api.DefName, change func(string) string) api.DefName {
	c.Sort = change(c.Sort)
	return c
}

// scopeWithSorts is as withSorts, of a scope: spaces are no sorts.
func scopeWithSorts(s api.DefScope, change func(string) string) api.DefScope {
	s.Of = consWithSort(s.Of, change)
	s.Declares = fresh(s.Declares)
	s.Uses = fresh(s.Uses)
	s.Inner = fresh(s.Inner)
	return s
}

// each tells a new list of what is made of each thing of a list.
func each[T any](list []T, change func(T) T) []T {
	var out []T
	for _, x := range list {
		out = append(out, change(x))
	}
	return out
}

// fresh tells a list in new memory.
func fresh[T any](list []T) []T {
	return append([]T(nil), list...)
}

// addParts adds a module's parts to those of another one, whose lists and what is in them become its own.
func addParts(m *api.Module, more api.Module) {
	m.Comments = append(m.Comments, more.Comments...)
	m.Prods = append(m.Prods, more.Prods...)
	m.Restricts = append(m.Restricts, more.Restricts...)
	m.Prios = append(m.Prios, more.Prios...)
	m.Scopes = append(m.Scopes, more.Scopes...)
}

// inOrder puts a module's parts in order, each once.
func inOrder(m api.Module) api.Module {
	m.Comments = byText(m.Comments, func(comment string) string { return comment })
	m.Prods = byText(m.Prods, deftext.Prod)
	m.Restricts = byText(joined(m.Restricts), deftext.Restrict)
	m.Prios = byText(m.Prios, deftext.Prio)
	m.Scopes = byText(m.Scopes, deftext.Scope)
	return m
}

// byText puts parts in order by their texts: those of one text are one.
func byText[T any](parts []T, text func(T) string) []T {
	places := map[string]int{}
	for place, part := range parts {
		places[text(part)] = place
	}
	var out []T
	for _, t := range slices.Sorted(maps.Keys(places)) {
		out = append(out, parts[places[t]])
	}
	return out
}

// joined makes one of restrictions of one sort, or of one literal.
func joined(l []api.DefRestrict) []api.DefRestrict {
	var out []api.DefRestrict
	places := map[api.DefRestrict]int{}
	for _, r := range l {
		of := api.DefRestrict{Name: r.Name, Text: r.Text}
		place, there := places[of]
		if !there {
			place = len(out)
			places[of] = place
			out = append(out, of)
		}
		out[place].Not = sets.Union(out[place].Not, r.Not)
	}
	return out
}
