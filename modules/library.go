package modules

import (
	"maps"
	"slices"

	"rosetta/api"
)

// refusal is what putting modules together is given up with: the error, and the module that it is of, if the chapter asks which.
type refusal struct {
	of  string
	err api.Errno
}

// attempt does something, and tells what it was given up with: a zero refusal, if it was not.
func attempt(do func()) (refused refusal) {
	defer func() {
		if p := recover(); p != nil {
			refused = p.(refusal) // any other panic goes on as one
		}
	}()
	do()
	return refusal{}
}

// refuseIf gives up, if something is wrong.
func refuseIf(wrong bool, of string, err api.Errno) {
	if wrong {
		panic(refusal{of, err})
	}
}

// library is the modules of a table, by name.
type library map[string]api.Module

// libraryOf tells the library of a table, if it is one, from which a root may be put together.
func libraryOf(root string, table []api.Module) library {
	refuseIf(!nameMayBe(root), "", api.ErrArg)
	for _, m := range table {
		refuseIf(!mayBe(m), "", api.ErrArg)
		for _, i := range m.Imports {
			refuseIf(!eachFromOnce(i.Renames), "", api.ErrArg)
		}
	}
	refuseIf(len(table) > api.MaxModules, "", api.ErrLong)
	l := library{}
	for _, m := range table {
		l[m.Name] = m
	}
	refuseIf(len(l) < len(table), "", api.ErrThere)
	return l
}

// reach tells where some names lead to, themselves too, rising: a module that is not there leads no further.
func (l library) reach(from ...string) []string {
	seen := map[string]struct{}{}
	var visit func(name string)
	visit = func(name string) {
		if _, was := seen[name]; was {
			return
		}
		seen[name] = struct{}{}
		for _, i := range l[name].Imports {
			visit(i.Name)
		}
	}
	for _, name := range from {
		visit(name)
	}
	return slices.Sorted(maps.Keys(seen))
}

// reached tells the names of what is reached from the root, rising, if all of it is there.
func (l library) reached(root string) []string {
	names := l.reach(root)
	for _, name := range names {
		_, there := l[name]
		refuseIf(!there, name, api.ErrMissing)
	}
	return names
}

// refuseCircles gives up, if some of the names, which rise, leads back to itself.
func (l library) refuseCircles(names []string) {
	for _, name := range names {
		var imported []string
		for _, i := range l[name].Imports {
			imported = append(imported, i.Name)
		}
		refuseIf(slices.Contains(l.reach(imported...), name), name, api.ErrCircle)
	}
}
