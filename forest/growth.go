package forest

import (
	"cmp"
	"container/heap"
	"math"
)

// tooLarge is the size of all trees for which no answer has room.
const tooLarge = math.MaxInt32 + 1

// tree is a tree of an alternative. Others have the same kids: what may stand at a symbol of a production, in a node, is the same tree just if it is this one.
type tree struct {
	alt, size, deep int
	kids            []kid
}

// kid is what stands at a symbol: at a set no tree; else one, and how many others that may stand there are ahead of it.
type kid struct {
	tree *tree
	rank int
}

// growth is a forest whose trees are grown.
type growth struct {
	*forest
	kids    [][]kid // by alternatives' numbers, those of the first tree
	waits   []int   // by alternatives' numbers, how many of these there are not yet
	firsts  []*tree // by alternatives' numbers, the first tree; none of one that has none
	guarded map[symbol]struct{}
	rows    map[spot]*row
}

// growthOf grows the first tree of each alternative of a forest.
func growthOf(f *forest) *growth {
	g := &growth{forest: f, kids: byAlternatives[kid](f), waits: make([]int, len(f.alts)), firsts: make([]*tree, len(f.alts)),
		guarded: map[symbol]struct{}{}, rows: map[spot]*row{}}
	for x := range f.forbidden {
		g.guarded[symbol{x.Parent, x.At}] = struct{}{}
	}
	g.growFirsts()
	return g
}

// growFirsts grows the first trees, the small ones first: so those that are in a tree are there ahead of it, and the first one of a bunch is its first one of all.
func (g *growth) growFirsts() {
	q := &queue{before: g.compare}
	for alt := range g.alts {
		for range g.kidsOf(alt) {
			g.waits[alt]++
		}
		g.growFirst(q, alt)
	}
	begun := make([]bool, len(g.bunches))
	for q.Len() > 0 {
		t := heap.Pop(q).(*tree)
		b := g.of[t.alt]
		if begun[b.number] {
			continue
		}
		begun[b.number] = true
		for _, s := range b.stand.seats {
			if at := &g.kids[s.alt][s.at]; at.tree == nil && g.fits(b, s) {
				at.tree = t
				g.waits[s.alt]--
				g.growFirst(q, s.alt)
			}
		}
	}
}

// growFirst grows the first tree of an alternative, if all its kids are there.
func (g *growth) growFirst(q *queue, alt int) {
	if g.waits[alt] == 0 {
		g.firsts[alt] = treeOf(alt, g.kids[alt])
		heap.Push(q, g.firsts[alt])
	}
}

// treeOf tells the tree of an alternative that has some kids.
func treeOf(alt int, kids []kid) *tree {
	t := &tree{alt, 1, 1, kids}
	for _, k := range kids {
		size, deep := 1, 1 // of a byte
		if k.tree != nil {
			size, deep = k.tree.size, k.tree.deep
		}
		t.size = min(t.size+size, tooLarge)
		t.deep = max(t.deep, deep+1)
	}
	return t
}

// compare tells which of two trees stands first: of one node, the one that does by the order of trees; of others, any of them, but always the same one.
func (g *growth) compare(a, b *tree) int {
	if a.size != b.size {
		return cmp.Compare(a.size, b.size)
	}
	if x, y := g.of[a.alt], g.of[b.alt]; x != y {
		return cmp.Compare(x.number, y.number)
	}
	return g.compareInside(a, b)
}

// compareInside tells which of two trees of one node stands first, if they are of one size: by the first place where they are unlike. Bytes never are: the text is the same.
func (g *growth) compareInside(a, b *tree) int {
down:
	for {
		if c := cmp.Compare(g.alts[a.alt].Prod, g.alts[b.alt].Prod); c != 0 {
			return c
		}
		for i := range a.kids {
			if x, y := a.kids[i].tree, b.kids[i].tree; x != y {
				a, b = x, y
				continue down
			}
		}
		return 0
	}
}

// queue is trees of which the first one is taken first.
type queue struct {
	trees  []*tree
	before func(a, b *tree) int
}

// Len tells how many trees there are.
func (q *queue) Len() int { return len(q.trees) }

// Less tells whether one tree goes ahead of another one.
func (q *queue) Less(i, j int) bool { return q.before(q.trees[i], q.trees[j]) < 0 }

// Swap swaps two trees.
func (q *queue) Swap(i, j int) { q.trees[i], q.trees[j] = q.trees[j], q.trees[i] }

// add adds trees, but for those that are not there, in no order yet.
func (q *queue) add(trees []*tree) {
	for _, t := range trees {
		if t != nil {
			q.trees = append(q.trees, t)
		}
	}
}

// Push adds a tree at the end.
func (q *queue) Push(t any) { q.trees = append(q.trees, t.(*tree)) }

// Pop takes off the tree at the end.
func (q *queue) Pop() any {
	last := len(q.trees) - 1
	t := q.trees[last]
	q.trees = q.trees[:last]
	return t
}
