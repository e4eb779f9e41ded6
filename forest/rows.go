package forest

import (
	"container/heap"
	"slices"

	"rosetta/api"
)

// spot is where trees of a node stand: at a symbol at which something is forbidden, or, without one, anywhere else.
type spot struct {
	node   node
	symbol symbol
}

// row is the trees that may stand at a spot, in their order, as far as they were asked for.
type row struct {
	trees []*tree
	led   int    // from how many of them it was gone on
	next  *queue // those that may come behind them: the first tree of each alternative, and what stands next to each tree of the row
}

// rowAt tells the row of a node's trees at a symbol.
func (g *growth) rowAt(n node, s symbol) *row {
	if _, guarded := g.guarded[s]; !guarded {
		s = symbol{}
	}
	r := g.rows[spot{n, s}]
	if r == nil {
		r = &row{next: &queue{before: g.compare}}
		g.rows[spot{n, s}] = r
		for _, b := range g.bunchesOf(n) {
			if g.mayStand(b.prod, s) {
				r.next.add(g.firsts[b.alts.first:b.alts.behind])
			}
		}
		heap.Init(r.next)
	}
	return r
}

// tree tells a tree of a row, by how many are ahead of it; nil, if there are no more.
func (g *growth) tree(r *row, rank int) *tree {
	for len(r.trees) <= rank {
		if r.led < len(r.trees) {
			g.goOn(r, r.trees[r.led])
			r.led++
		}
		if r.next.Len() == 0 {
			return nil
		}
		r.trees = append(r.trees, heap.Pop(r.next).(*tree))
	}
	return r.trees[rank]
}

// goOn puts to a row what stands next to a tree: the same, but at one symbol the next one that may stand there. At a symbol ahead of one at which not the first one stands it is not gone on, so that each tree is met once. (It asks rows of trees that are in this one alone: so it comes to an end, and no deeper than the tree.)
func (g *growth) goOn(r *row, t *tree) {
	for at, k := range slices.Backward(t.kids) {
		if k.tree == nil {
			continue
		}
		s := symbol{g.alts[t.alt].Prod, at + 1}
		if next := g.tree(g.rowAt(g.nodeOf(k.tree.alt), s), k.rank+1); next != nil {
			kids := slices.Clone(t.kids)
			kids[at] = kid{next, k.rank + 1}
			heap.Push(r.next, treeOf(t.alt, kids))
		}
		if k.rank > 0 {
			return
		}
	}
}

// firstTrees tells the first trees of a node, at most so many; or ErrLong, if one is too deep, or they are too large for an answer.
func (g *growth) firstTrees(n node, most int) ([]*tree, api.Errno) {
	r := g.rowAt(n, symbol{})
	size := 0
	for rank := range most {
		t := g.tree(r, rank)
		if t == nil {
			break
		}
		size += t.size
		if t.deep > api.MaxDepth || size >= tooLarge {
			return nil, api.ErrLong
		}
	}
	return r.trees, api.OK
}

// told tells a tree as an answer, its kids' lists side by side in memory of its own.
func (g *growth) told(text string, t *tree) api.Tree {
	room := make([]api.Tree, t.size-1)
	var tell func(t *tree) api.Tree
	tell = func(t *tree) api.Tree {
		a := g.alts[t.alt]
		count := len(t.kids)
		out := api.Tree{Prod: a.Prod, Kids: room[:count:count]} // cut, so that one that is added to does not write in the next
		room = room[count:]
		from := a.From
		for i, k := range t.kids {
			if k.tree == nil {
				out.Kids[i] = api.Tree{Prod: -1, Byte: text[from]}
			} else {
				out.Kids[i] = tell(k.tree)
			}
			from = a.Cuts[i]
		}
		return out
	}
	return tell(t)
}
