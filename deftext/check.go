package deftext

import (
	"rosetta/api"
	"rosetta/deflex"
)

// What may be is what some text says: each of these asks for just what the reader makes of one.

// allMayBe tells whether a list has most things at most, each of them one that may be.
func allMayBe[T any](list []T, most int, mayBe func(T) bool) bool {
	if len(list) > most {
		return false
	}
	for _, x := range list {
		if !mayBe(x) {
			return false
		}
	}
	return true
}

// someMayBe tells whether a list has one thing at least, and may be.
func someMayBe[T any](list []T, mayBe func(T) bool) bool {
	return len(list) > 0 && allMayBe(list, api.MaxProds, mayBe)
}

// nameMayBe tells whether a name may be told.
func nameMayBe(s string) bool {
	return deflex.Name(s) && !isReserved(s)
}

// nameOrNoneMayBe tells whether a name that may be left out may be told.
func nameOrNoneMayBe(s string) bool {
	return s == "" || nameMayBe(s)
}

// textMayBe tells whether a text is within its bounds.
func textMayBe(s string) bool {
	return 1 <= len(s) && len(s) <= api.MaxRight
}

// numberMayBe tells whether a number is within its bounds.
func numberMayBe(n int) bool {
	return 1 <= n && n <= api.MaxRight
}

// assocMayBe tells whether an order is one.
func assocMayBe(a api.Assoc) bool {
	return 0 <= a && int(a) < len(assocWords)
}

// moduleMayBe tells whether a module may be.
func moduleMayBe(m api.Module) bool {
	return nameMayBe(m.Name) &&
		allMayBe(m.Imports, api.MaxModules, importMayBe) &&
		nameOrNoneMayBe(m.Start) && nameOrNoneMayBe(m.Layout) &&
		allMayBe(m.Comments, api.MaxProds, nameMayBe) &&
		allMayBe(m.Prods, api.MaxProds, prodMayBe) &&
		allMayBe(m.Restricts, api.MaxProds, restrictMayBe) &&
		allMayBe(m.Prios, api.MaxProds, prioMayBe) &&
		allMayBe(m.Scopes, api.MaxProds, scopeMayBe)
}

// importMayBe tells whether an import may be.
func importMayBe(i api.DefImport) bool {
	return nameMayBe(i.Name) && allMayBe(i.Renames, api.MaxProds, func(r api.DefRename) bool {
		return nameMayBe(r.From) && nameMayBe(r.To)
	})
}

// prodMayBe tells whether a production may be.
func prodMayBe(d api.DefProd) bool {
	if !nameMayBe(d.Sort) || !allMayBe(d.Right, api.MaxRight, symbolMayBe) {
		return false
	}
	if d.Lexical {
		marked := d.Prefer || d.Avoid || d.Bracket || d.Assoc != api.AssocNone
		return d.Cons == "" && !marked && len(d.Template) == 0
	}
	return nameOrNoneMayBe(d.Cons) && !d.Reject && !(d.Prefer && d.Avoid) &&
		assocMayBe(d.Assoc) && allMayBe(d.Template, api.MaxProds, itemMayBe)
}

// symbolMayBe tells whether a symbol may be.
func symbolMayBe(s api.DefSym) bool {
	if !manyMayBe(s.Many, s.Sep) {
		return false
	}
	without := api.DefSym{Is: s.Is, Many: s.Many, Sep: s.Sep} // a field that its kind has no use for is empty
	switch s.Is {
	case api.DefSort:
		without.Name = s.Name
		return s == without && nameMayBe(s.Name)
	case api.DefLit:
		without.Text = s.Text
		return s == without && textMayBe(s.Text)
	case api.DefSet:
		without.Set = s.Set
		return s == without
	}
	return false
}

// manyMayBe tells whether something may stand that often, with that text between.
func manyMayBe(m api.DefMany, sep string) bool {
	switch m {
	case api.ManyOne, api.ManyOpt:
		return sep == ""
	case api.ManyStar, api.ManyPlus:
		return sep == "" || textMayBe(sep)
	}
	return false
}

// itemMayBe tells whether an item of a template may be.
func itemMayBe(i api.DefItem) bool {
	switch i {
	case api.DefItem{Text: i.Text}:
		return textMayBe(i.Text)
	case api.DefItem{Kid: i.Kid}:
		return numberMayBe(i.Kid)
	case api.DefItem{Break: i.Break}:
		return 0 < i.Break && i.Break < len(breakWords)
	}
	return false
}

// restrictMayBe tells whether a restriction may be.
func restrictMayBe(r api.DefRestrict) bool {
	if r.Text != "" {
		return r.Name == "" && textMayBe(r.Text)
	}
	return nameMayBe(r.Name)
}

// prioMayBe tells whether a priority may be.
func prioMayBe(p api.DefPrio) bool {
	return someMayBe(p.Groups, func(g api.DefGroup) bool {
		return assocMayBe(g.Assoc) && someMayBe(g.Names, consMayBe)
	})
}

// consMayBe tells whether a constructor may be told.
func consMayBe(c api.DefName) bool {
	return nameMayBe(c.Sort) && nameMayBe(c.Cons)
}

// scopeMayBe tells whether a scope may be.
func scopeMayBe(s api.DefScope) bool {
	return consMayBe(s.Of) &&
		allMayBe(s.Declares, api.MaxProds, declareMayBe) &&
		allMayBe(s.Uses, api.MaxProds, func(u api.DefUse) bool { return declareMayBe(api.DefDeclare(u)) }) &&
		allMayBe(s.Inner, api.MaxProds, numberMayBe)
}

// declareMayBe tells whether a declare may be.
func declareMayBe(d api.DefDeclare) bool {
	return numberMayBe(d.Kid) && nameMayBe(d.Space)
}
