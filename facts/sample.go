package facts

import (
	"slices"

	"rosetta/api"
	"rosetta/sets"
)

// offer is a text that a sort has by one of its productions: the least one.
type offer struct {
	sort int
	text *text
}

// chooser chooses sorts' least texts, the least of all first. What a text stands in is not less than it, so what is found later makes no choice worse.
type chooser struct {
	texts   []*text    // of each sort whose text is chosen
	waiting []api.Prod // productions that have sorts whose text is not
	offers  []offer    // what the other ones have, the least first
}

// sample tells the least of a sort's shortest texts, of which there are some, not too long. Productions are left out that have none of the shortest texts, or longer ones than what is asked for: they would be work for nothing.
func sample(g api.Grammar, least *lengths, sort int) string {
	c := chooser{texts: make([]*text, len(g.Sorts))}
	for _, p := range living(g) {
		if n := least.of(p); n == least[p.Left] && n <= least[sort] {
			c.waiting = append(c.waiting, p)
		}
	}
	for c.texts[sort] == nil {
		c.gather()
		c.choose()
	}
	return c.texts[sort].String()
}

// gather puts the productions among the offers that wait for nothing more.
func (c *chooser) gather() {
	c.waiting = slices.DeleteFunc(c.waiting, func(p api.Prod) bool {
		waits := slices.ContainsFunc(p.Right, func(s api.Sym) bool { return s.Kind == api.SymSort && c.texts[s.Sort] == nil })
		if !waits {
			c.add(offer{p.Left, c.textOf(p)})
		}
		return !waits
	})
}

// textOf tells the least text of a production, all of whose sorts' texts are chosen.
func (c *chooser) textOf(p api.Prod) *text {
	var parts []*text
	for _, s := range p.Right {
		if s.Kind == api.SymSort {
			parts = append(parts, c.texts[s.Sort])
			continue
		}
		b, _ := sets.Least(s.Set)
		parts = append(parts, whole(string([]byte{b})))
	}
	return join(parts)
}

// add puts an offer among the others, in order.
func (c *chooser) add(o offer) {
	at, _ := slices.BinarySearchFunc(c.offers, o, func(a, b offer) int { return compare(a.text, b.text) })
	c.offers = slices.Insert(c.offers, at, o)
}

// choose takes the least offer. (There is one till the text that is asked for is chosen: a sort's shortest trees, the flattest of them, have somewhere a production that waits for nothing.)
func (c *chooser) choose() {
	o := c.offers[0]
	c.offers = c.offers[1:]
	if c.texts[o.sort] == nil {
		c.texts[o.sort] = o.text
	}
}
