package tables_test

import (
	"maps"
	"math/rand"
	"slices"
	"testing"

	"rosetta/api"
	"rosetta/kernel"
	"rosetta/sets"
	"rosetta/tables"
)

// symbolAt tells the symbol of an item at a place of its production.
func symbolAt(g api.Grammar, it api.Item, at int) (api.Sym, bool) {
	if right := g.Prods[it.Prod].Right; 0 <= at && at < len(right) {
		return right[at], true
	}
	return api.Sym{}, false
}

// checkFollows asks what follows of states, of their items and what they lead on by alone.
func checkFollows(t *testing.T, g api.Grammar, x *tables.Tables) {
	t.Helper()
	met := map[string]int{}
	for n := range x.States() {
		items := x.Items(n)
		if old, again := met[itemsText(items)]; again {
			t.Fatalf("P9.5: states %d and %d have the same items: %s", old, n, kernel.Text(g))
		}
		met[itemsText(items)] = n
		checkLeads(t, g, x, n)
		for s, to := range x.All(n) {
			checkRead(t, g, x, to, s)
		}
		for _, it := range items {
			if n == 0 && it.Dot != 0 {
				t.Fatalf("P9.5: the first state has %v", it)
			}
			if p := g.Prods[it.Prod]; it.Dot < 0 || it.Dot > len(p.Right) || p.Role == api.RoleReject {
				t.Fatalf("P9.5: state %d has %v\n%s", n, it, kernel.Text(g))
			}
		}
	}
}

// checkLeads asks that a state leads on by just the sets and sorts behind its Dots; and by a class each of whose bytes are in the same ones of the sets.
func checkLeads(t *testing.T, g api.Grammar, x *tables.Tables, n int) {
	t.Helper()
	var asked, got api.Set
	sorts, leads := map[int]bool{}, map[int]bool{}
	var l, classes []api.Set
	for _, it := range x.Items(n) {
		s, more := symbolAt(g, it, it.Dot)
		asked = sets.Union(asked, s.Set)
		if more && s.Kind == api.SymSort {
			sorts[s.Sort] = true
		} else if more {
			l = append(l, s.Set)
		}
	}
	for s := range x.All(n) {
		got = sets.Union(got, s.Set)
		if s.Kind == api.SymSort {
			leads[s.Sort] = true
		} else {
			classes = append(classes, s.Set)
		}
	}
	if got != asked || !maps.Equal(sorts, leads) || x.Next(n) != asked || x.Leads(n) != len(sorts)+len(classes) {
		t.Fatalf("P9.5: state %d leads on by %v %v, want %v %v", n, got, leads, asked, sorts)
	}
	var parts []api.Set
	for _, part := range sets.Split(l...) {
		if sets.Meet(part, asked) != (api.Set{}) {
			parts = append(parts, part)
		}
	}
	if !slices.Equal(classes, parts) {
		t.Fatalf("P9.2: classes of state %d: %v, want %v", n, classes, parts)
	}
}

// checkRead asks that all items of a state that do not have the Dot 0 have a symbol ahead of it that was read last.
func checkRead(t *testing.T, g api.Grammar, x *tables.Tables, n int, last api.Sym) {
	t.Helper()
	count := 0
	for _, it := range x.Items(n) {
		s, read := symbolAt(g, it, it.Dot-1)
		if !read {
			continue
		}
		count++
		if s.Kind != last.Kind || s.Sort != last.Sort || !sets.Within(last.Set, s.Set) {
			t.Fatalf("P9.5: state %d, read behind %v: %v behind %v", n, last, it, s)
		}
	}
	if count == 0 {
		t.Fatalf("P9.5: state %d, read behind %v: no item", n, last)
	}
}

// heights tells of each sort how flat its flattest trees are; 0 of one that has none.
func heights(g api.Grammar) []int {
	out := make([]int, len(g.Sorts))
	for height := 1; height <= len(g.Sorts); height++ {
		for _, p := range g.Prods {
			high := slices.ContainsFunc(p.Right, func(s api.Sym) bool {
				return s.Kind == api.SymSort && (out[s.Sort] == 0 || out[s.Sort] >= height)
			})
			if !high && out[p.Left] == 0 && p.Role != api.RoleReject {
				out[p.Left] = height
			}
		}
	}
	return out
}

// grown tells a tree of a sort that has some: of any production, while it may be deep, then of those that make it flat.
func grown(die *rand.Rand, g api.Grammar, flattest []int, sort, deep int) api.Tree {
	var l []int
	for n, p := range g.Prods {
		if p.Left != sort || p.Role == api.RoleReject {
			continue
		}
		may := !slices.ContainsFunc(p.Right, func(s api.Sym) bool {
			return s.Kind == api.SymSort && (flattest[s.Sort] == 0 || deep <= 0 && flattest[s.Sort] >= flattest[sort])
		})
		if may {
			l = append(l, n)
		}
	}
	t := api.Tree{Prod: pick(die, l...)}
	for _, s := range g.Prods[t.Prod].Right {
		if s.Kind == api.SymSort {
			t.Kids = append(t.Kids, grown(die, g, flattest, s.Sort, deep-1))
		} else {
			t.Kids = append(t.Kids, api.Tree{Prod: -1, Byte: pick(die, slices.Collect(sets.Bytes(s.Set))...)})
		}
	}
	return t
}

// readTree reads a tree of a sort from a state on: byte by byte it leads on, each kid's sort leads on from where the kid began, and at its end its production is complete.
func readTree(x *tables.Tables, g api.Grammar, from int, tree api.Tree) bool {
	if !slices.Contains(x.Items(from), api.Item{Prod: tree.Prod}) {
		return false
	}
	at, ok := from, true
	for i, kid := range tree.Kids {
		if kid.Prod < 0 {
			at, ok = x.Shift(at, kid.Byte)
		} else {
			ok = readTree(x, g, at, kid)
			if ok {
				at, ok = x.Goto(at, g.Prods[tree.Prod].Right[i].Sort)
			}
		}
		if !ok {
			return false
		}
	}
	return slices.Contains(x.Reduces(at), tree.Prod)
}

// P9.5: each state that has one of a sort's productions with the Dot 0 reads its trees.
func TestTrees(t *testing.T) {
	die := rand.New(rand.NewSource(95))
	count, nested := 0, 0
	for i := range 3000 {
		g := randomGrammar(die, 1+i%5, 4+i%12, 1+i%4)
		x, flattest := made(t, g), heights(g)
		for sort := range g.Sorts {
			if flattest[sort] == 0 {
				continue
			}
			for range 3 {
				tree := grown(die, g, flattest, sort, 1+die.Intn(6))
				if e := kernel.CheckTree(g, tree); e != api.OK {
					t.Fatal(e, tree)
				}
				for n := range x.States() {
					begins := slices.ContainsFunc(x.Items(n), func(it api.Item) bool { return it.Dot == 0 && g.Prods[it.Prod].Left == sort })
					if begins != readTree(x, g, n, tree) {
						t.Fatalf("P9.5: start %s: state %d, tree %v\n%s\n%v", g.Sorts[g.Start], n, tree, kernel.Text(g), lines(g, x)[n])
					}
					if begins {
						count++
					}
				}
				if text, _ := kernel.Yield(tree); len(text) > 3 {
					nested++
				}
			}
		}
	}
	if count < 20_000 || nested < 1000 {
		t.Errorf("only %d trees read, %d long ones", count, nested)
	}
}

// P9.5: a tree as deep as may be, at the left, at the right, in the middle, and one of many kids.
func TestDeepTrees(t *testing.T) {
	for _, line := range []string{"S = S [a]", "S = [a] S", "S = [a] S [b]", "S = S S"} {
		g := read("S", line, "S = [c]")
		x := made(t, g)
		tree := api.Tree{Prod: 1, Kids: []api.Tree{{Prod: -1, Byte: 'c'}}}
		leaf := tree
		for range api.MaxDepth - 2 {
			next := api.Tree{}
			for _, s := range g.Prods[0].Right {
				switch {
				case s.Kind == api.SymSort && len(next.Kids) > 0 && next.Kids[0].Prod >= 0:
					next.Kids = append(next.Kids, leaf)
				case s.Kind == api.SymSort:
					next.Kids = append(next.Kids, tree)
				default:
					b, _ := sets.Least(s.Set)
					next.Kids = append(next.Kids, api.Tree{Prod: -1, Byte: b})
				}
			}
			tree = next
		}
		if e := kernel.CheckTree(g, tree); e != api.OK {
			t.Fatal(line, e)
		}
		if !readTree(x, g, x.Start(), tree) {
			t.Errorf("P9.5: %s: a deep tree is not read", line)
		}
	}
}
