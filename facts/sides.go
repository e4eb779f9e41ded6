package facts

import (
	"slices"

	"rosetta/api"
)

// grow adds a set's bytes to another one, and tells whether some are new.
func grow(to *api.Set, more api.Set) bool {
	old := *to
	for i, word := range more {
		to[i] |= word
	}
	return *to != old
}

// begins is how sorts' texts begin: with which bytes, and whether one of them is empty.
type begins struct {
	bytes []api.Set
	empty []bool
}

// of tells how a symbol's texts begin.
func (b begins) of(s api.Sym) (api.Set, bool) {
	if s.Kind == api.SymSet {
		return s.Set, false
	}
	return b.bytes[s.Sort], b.empty[s.Sort]
}

// first tells of each sort the bytes with which its texts begin.
func first(g api.Grammar) []api.Set {
	return beginsOf(g).bytes
}

// beginsOf tells how a grammar's sorts begin.
func beginsOf(g api.Grammar) begins {
	b := begins{bytes: make([]api.Set, len(g.Sorts)), empty: nullable(g)}
	settle(living(g), func(p api.Prod) bool {
		news := false
		for _, s := range p.Right {
			bytes, empty := b.of(s)
			if grow(&b.bytes[p.Left], bytes) {
				news = true
			}
			if !empty {
				break
			}
		}
		return news
	})
	return b
}

// back is what stands directly behind trees of a sort in those of the Start: whether there are such trees, the bytes, whether the text's end.
type back struct {
	there bool
	bytes api.Set
	end   bool
}

// grow adds what stands behind some more trees, and tells whether something of it is new.
func (b *back) grow(more back) bool {
	old := *b
	b.there = b.there || more.there
	grow(&b.bytes, more.bytes)
	b.end = b.end || more.end
	return *b != old
}

// ahead tells what stands behind what is just ahead of a symbol, behind which this stands.
func (b back) ahead(bytes api.Set, empty bool) back {
	if !empty {
		return back{there: b.there, bytes: bytes}
	}
	grow(&b.bytes, bytes)
	return b
}

// backs tells of each sort what stands behind it.
func backs(g api.Grammar) []back {
	sorts, behind := beginsOf(g), make([]back, len(g.Sorts))
	if productive(g)[g.Start] {
		behind[g.Start] = back{there: true, end: true}
	}
	settle(living(g), func(p api.Prod) bool {
		here, news := behind[p.Left], false
		if !here.there {
			return false
		}
		for _, s := range slices.Backward(p.Right) {
			if s.Kind == api.SymSort && behind[s.Sort].grow(here) {
				news = true
			}
			here = here.ahead(sorts.of(s))
		}
		return news
	})
	return behind
}

// follow tells of each sort the bytes that stand directly behind its trees.
func follow(g api.Grammar) []api.Set {
	var out []api.Set
	for _, b := range backs(g) {
		out = append(out, b.bytes)
	}
	return out
}

// ends tells of each sort whether trees of it end where one of the Start ends.
func ends(g api.Grammar) []bool {
	var out []bool
	for _, b := range backs(g) {
		out = append(out, b.end)
	}
	return out
}
