package modules

import (
	"slices"

	"rosetta/api"
)

// composer puts a library's modules together, each once.
type composer struct {
	modules library
	wholes  map[string]api.Module
	clash   []string // the modules whose imports have unlike layouts
}

// compose puts a module together that leads to no circle and to nothing that is missing.
func (l library) compose(root string) api.Module {
	c := composer{modules: l, wholes: map[string]api.Module{}}
	whole := c.whole(root)
	if len(c.clash) > 0 {
		panic(refusal{slices.Min(c.clash), api.ErrClash})
	}
	return whole
}

// whole tells a module put together. Callers take copies of it: it is handed out again.
func (c *composer) whole(name string) api.Module {
	if w, done := c.wholes[name]; done {
		return w
	}
	w := renamed(c.modules[name], nil)
	var layouts []string
	for _, i := range w.Imports {
		part := renamed(c.whole(i.Name), i.Renames)
		addParts(&w, part)
		if part.Layout != "" {
			layouts = append(layouts, part.Layout)
		}
	}
	w.Imports = nil
	w = inOrder(w)
	refuseIf(isLong(w), "", api.ErrLong)
	if w.Layout == "" {
		w.Layout = c.common(name, layouts)
	}
	c.wholes[name] = w
	return w
}

// common tells the layout that a module's imports have in common: none, if they have none, or clash.
func (c *composer) common(name string, layouts []string) string {
	switch unlike := slices.Compact(layouts); len(unlike) { // one alone is left just if all are alike
	case 0:
		return ""
	case 1:
		return unlike[0]
	}
	c.clash = append(c.clash, name)
	return ""
}

// isLong tells whether a module that was put together has too much of something.
func isLong(m api.Module) bool {
	return max(len(m.Comments), len(m.Prods), len(m.Restricts), len(m.Prios), len(m.Scopes)) > api.MaxProds
}
