package forest

// reached tells by bunches' numbers which of them some tree of a node is made of, if they have one: those of the node, and those that may sit at a seat of an alternative that has a tree.
func (c *counts) reached(n node) []bool {
	met := make([]bool, len(c.bunches))
	var open []*bunch
	meet := func(b *bunch) {
		if !met[b.number] {
			met[b.number] = true
			open = append(open, b)
		}
	}
	for _, b := range c.bunchesOf(n) {
		meet(b)
	}
	for len(open) > 0 {
		last := open[len(open)-1]
		open = open[:len(open)-1]
		for alt := last.alts.first; alt < last.alts.behind; alt++ {
			if !c.isAlive(alt) {
				continue
			}
			for at, kid := range c.kidsOf(alt) {
				for _, b := range c.bunchesOf(kid) {
					if c.fits(b, seat{alt, at}) {
						meet(b)
					}
				}
			}
		}
	}
	return met
}

// isEndless tells whether a node has endlessly many trees: just if, from one of its bunches on, trees of a bunch can have trees of the same bunch in them. So bunches are taken off whose trees have none in them but of bunches that are taken off, till there is none.
func (c *counts) isEndless(n node) bool {
	inner := make([]int, len(c.bunches)) // by bunches' numbers, how many times one is still to be taken off whose trees sit in theirs
	for _, b := range c.bunches {
		c.around(b, func(outer *bunch) { inner[outer.number]++ })
	}
	var off []*bunch
	for _, b := range c.bunches {
		if inner[b.number] == 0 {
			off = append(off, b)
		}
	}
	for len(off) > 0 {
		last := off[len(off)-1]
		off = off[:len(off)-1]
		c.around(last, func(outer *bunch) {
			inner[outer.number]--
			if inner[outer.number] == 0 {
				off = append(off, outer)
			}
		})
	}
	for _, b := range c.bunchesOf(n) {
		if inner[b.number] > 0 {
			return true
		}
	}
	return false
}

// around tells the bunches of the alternatives that have trees, at whose seats those of a bunch may sit: as many times as there are seats.
func (c *counts) around(b *bunch, tell func(outer *bunch)) {
	for _, s := range b.stand.seats {
		if c.isAlive(s.alt) && c.fits(b, s) {
			tell(c.of[s.alt])
		}
	}
}
