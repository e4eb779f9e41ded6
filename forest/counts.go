package forest

import (
	"cmp"
	"slices"
)

// many is how far trees are counted: it stands for all that are more, endlessly many too.
const many = 2

// counts is a forest whose trees are counted.
type counts struct {
	*forest
	ofAlt    []int   // by alternatives' numbers, how many trees each has
	ofBunch  []int   // by bunches' numbers, how many its alternatives have together
	ofSymbol [][]int // by alternatives' numbers and their symbols, how many trees may stand there
}

// countsOf counts a forest's trees: from short texts to long ones, as no tree has one in it of a longer text.
func countsOf(f *forest) *counts {
	c := &counts{forest: f, ofAlt: make([]int, len(f.alts)), ofBunch: make([]int, len(f.bunches)), ofSymbol: byAlternatives[int](f)}
	for alt, symbols := range c.ofSymbol {
		for at := range symbols {
			symbols[at] = 1 // of a set
		}
		for at := range f.kidsOf(alt) {
			symbols[at] = 0
		}
	}
	length := func(b *bunch) int { return f.length(b.alts.first) }
	order := slices.Clone(f.bunches)
	slices.SortFunc(order, func(a, b *bunch) int { return cmp.Compare(length(a), length(b)) })
	for len(order) > 0 {
		var waiting []int
		long := length(order[0])
		for len(order) > 0 && length(order[0]) == long {
			for alt := order[0].alts.first; alt < order[0].alts.behind; alt++ {
				waiting = append(waiting, alt)
			}
			order = order[1:]
		}
		c.settle(waiting)
	}
	return c
}

// settle counts the trees of alternatives of one length, till nothing changes. An alternative is gone over again, if there is more at one of its symbols.
func (c *counts) settle(waiting []int) {
next:
	for len(waiting) > 0 {
		alt := waiting[0]
		waiting = waiting[1:]
		trees := 1
		for _, some := range c.ofSymbol[alt] {
			if some == 0 {
				continue next
			}
			trees = min(trees*some, many)
		}
		more := trees - c.ofAlt[alt]
		c.ofAlt[alt] = trees
		c.add(c.of[alt], more, func(s seat) {
			if c.length(s.alt) == c.length(alt) {
				waiting = append(waiting, s.alt)
			}
		})
	}
}

// add adds trees to a bunch, and tells the seats where there are more then. (Where a bunch sits that has many, there are many.)
func (c *counts) add(b *bunch, more int, tell func(seat)) {
	if more == 0 || c.ofBunch[b.number] == many {
		return
	}
	c.ofBunch[b.number] = min(c.ofBunch[b.number]+more, many)
	for _, s := range b.stand.seats {
		at := &c.ofSymbol[s.alt][s.at]
		if *at < many && c.fits(b, s) {
			*at = min(*at+more, many)
			tell(s)
		}
	}
}

// isAlive tells whether an alternative has a tree.
func (c *counts) isAlive(alt int) bool {
	return c.ofAlt[alt] > 0
}

// treesOf tells how many trees a node has.
func (c *counts) treesOf(n node) int {
	trees := 0
	for _, b := range c.bunchesOf(n) {
		trees += c.ofBunch[b.number]
	}
	return min(trees, many)
}
