package forest_test

import (
	"fmt"
	"math"
	"math/rand"
	"reflect"
	"slices"
	"strings"
	"testing"

	"rosetta/api"
	"rosetta/forest"
	"rosetta/kernel"
	"rosetta/sets"
)

// Alternatives that have no tree: a kid's node has none, all of a kid's own are forbidden, a circle has no way out.
func TestAlive(t *testing.T) {
	g := read("S A B", "S = A B", "A = [a]", "B = [b]", "B = A", "S = S", "A = B")
	checkAlive(t, "no kid", g, list(g, "0: 0 1 2"), ".")
	checkAlive(t, "one kid of two", g, list(g, "0: 0 1 2", "1: 0 1"), ".x")
	checkAlive(t, "the other one", g, list(g, "0: 0 1 2", "2: 1 2"), ".x")
	checkAlive(t, "both", g, list(g, "0: 0 1 2", "1: 0 1", "2: 1 2"), "xxx")
	checkAlive(t, "both, one elsewhere", g, list(g, "0: 0 0 1", "0: 0 1 1", "1: 0 1", "2: 0 1"), "..xx")
	checkAlive(t, "both, with other ends", g, list(g, "0: 0 1 3", "1: 0 1", "2: 1 2"), ".xx")
	checkAlive(t, "a circle without a way out", g, list(g, "5: 0 1", "3: 0 1"), "..")
	checkAlive(t, "a circle with one", g, list(g, "1: 0 1", "5: 0 1", "3: 0 1"), "xxx")
	checkAlive(t, "a circle with one from the other side", g, list(g, "5: 0 1", "2: 0 1", "3: 0 1"), "xxx")
	checkAlive(t, "a circle of one without a way out", g, list(g, "4: 0 1"), ".")
	checkAlive(t, "a circle ahead of what has no tree", g, list(g, "0: 0 1 2", "4: 0 2", "1: 0 1"), "..x")
	checkNode(t, "a circle without a way out", g, "ab", list(g, "0: 0 1 2", "4: 0 2", "1: 0 1"), root{0, 0, 2}, "0", "")
	checkNode(t, "a circle without a way out beside one with", g, "ab", list(g, "0: 0 1 2", "1: 0 1", "5: 0 1", "2: 1 2", "3: 1 2"), root{0, 0, 2}, "1", "0: 0 1 2, 1: 0 1, 2: 1 2", "0(1(a) 2(b))")

	g.Forbid = []api.Forbid{{Parent: 0, At: 2, Child: 2}}
	checkAlive(t, "all of a kid's are forbidden", g, list(g, "0: 0 1 2", "1: 0 1", "2: 1 2"), ".xx")
	checkAlive(t, "one of a kid's is forbidden", g, list(g, "0: 0 1 2", "1: 0 1", "1: 1 2", "2: 1 2", "3: 1 2"), "xxxxx")
	g.Forbid = append(g.Forbid, api.Forbid{Parent: 0, At: 2, Child: 3})
	checkAlive(t, "each of a kid's is forbidden", g, list(g, "0: 0 1 2", "1: 0 1", "1: 1 2", "2: 1 2", "3: 1 2"), ".xxxx")
}

// The same list without a text: what its bytes are does not count.
func TestWithoutText(t *testing.T) {
	g := read("S", "S = [a] S", "S = [b]")
	far := math.MaxInt - 2
	alts := []api.Alt{{From: far, Until: far + 2, Cuts: []int{far + 1, far + 2}}, {From: far + 1, Until: far + 2, Prod: 1, Cuts: []int{far + 2}}}
	checkAlive(t, "far away", g, alts, "xx")
	count, e := forest.Count(g, alts, 0, far, far+2)
	cyclic, e2 := forest.Cyclic(g, alts, 0, far, far+2)
	pruned, e3 := forest.Prune(g, alts, 0, far, far+2)
	if count != 1 || cyclic || !reflect.DeepEqual(pruned, alts) || e != api.OK || e2 != api.OK || e3 != api.OK {
		t.Errorf("P11.2, P11.4: %d %v %v %v %v %v", count, cyclic, pruned, e, e2, e3)
	}
}

// Circles of one node, of several, through productions without symbols; with more than one way out.
func TestCircles(t *testing.T) {
	g := read("S A B", "S = A", "A = B", "B = S", "B = [a]", "B = [a]")
	alts := list(g, "0: 0 1", "1: 0 1", "2: 0 1", "3: 0 1")
	all := "0: 0 1, 1: 0 1, 2: 0 1, 3: 0 1"
	checkNode(t, "three nodes", g, "a", alts, root{0, 0, 1}, "2 endless", all, "0(1(3(a)))", "0(1(2(0(1(3(a))))))", "0(1(2(0(1(2(0(1(3(a)))))))))")
	checkNode(t, "three nodes, from the last on", g, "a", alts, root{2, 0, 1}, "2 endless", all, "3(a)", "2(0(1(3(a))))", "2(0(1(2(0(1(3(a)))))))")
	alts = append(alts, list(g, "4: 0 1")...)
	checkNode(t, "two ways out", g, "a", alts, root{1, 0, 1}, "2 endless", all+", 4: 0 1", "1(3(a))", "1(4(a))", "1(2(0(1(3(a)))))", "1(2(0(1(4(a)))))")

	g = read("S A", "S = S S", "S =", "S = A S A", "A =")
	alts = list(g, "0: 0 0 0", "1: 0")
	checkNode(t, "in itself twice, of nothing", g, "", alts, root{0, 0, 0}, "2 endless", "0: 0 0 0, 1: 0",
		"1()", "0(1() 1())", "0(0(1() 1()) 1())", "0(1() 0(1() 1()))", "0(0(0(1() 1()) 1()) 1())", "0(0(1() 0(1() 1())) 1())", "0(0(1() 1()) 0(1() 1()))")
	alts = list(g, "1: 0", "2: 0 0 0 0", "3: 0")
	checkNode(t, "between nothing and nothing", g, "", alts, root{0, 0, 0}, "2 endless", "1: 0, 2: 0 0 0 0, 3: 0", "1()", "2(3() 1() 3())", "2(3() 2(3() 1() 3()) 3())")

	g = read("S A B", "S = A S B", "S = [a]", "A =", "B = ", "B = [b]")
	alts = list(g, "0: 0 0 1 1", "1: 0 1", "0: 0 0 1 2", "0: 0 0 2 2", "2: 0", "3: 1", "4: 1 2", "3: 2")
	checkNode(t, "beside nothing", g, "ab", alts, root{0, 0, 2}, "2 endless", strings.Join(altTexts(alts), ", "),
		"0(2() 1(a) 4(b))", "0(2() 0(2() 1(a) 3()) 4(b))", "0(2() 0(2() 1(a) 4(b)) 3())", "0(2() 0(2() 0(2() 1(a) 3()) 3()) 4(b))")
	checkNode(t, "once, without nothing behind it", g, "ab", list(g, "1: 0 1", "0: 0 0 1 2", "2: 0", "4: 1 2"), root{0, 0, 2}, "1", "1: 0 1, 0: 0 0 1 2, 2: 0, 4: 1 2", "0(2() 1(a) 4(b))")
}

// Circles that stand in no tree of the node: of another one, below what has no tree, below what is forbidden.
func TestCirclesElsewhere(t *testing.T) {
	g := read("S A B", "S = A", "A = [a]", "B = B", "B = [a]", "S = B A", "S = B")
	circle := []string{"2: 0 1", "3: 0 1"}
	checkNode(t, "of another node", g, "a", list(g, append([]string{"0: 0 1", "1: 0 1"}, circle...)...), root{0, 0, 1}, "1", "0: 0 1, 1: 0 1", "0(1(a))")
	checkNode(t, "below what has no tree", g, "a", list(g, append([]string{"0: 0 1", "4: 0 1 1", "1: 0 1"}, circle...)...), root{0, 0, 1}, "1", "0: 0 1, 1: 0 1", "0(1(a))")
	with := list(g, append([]string{"0: 0 1", "5: 0 1", "1: 0 1"}, circle...)...)
	checkNode(t, "below another alternative", g, "a", with, root{0, 0, 1}, "2 endless", "0: 0 1, 5: 0 1, 1: 0 1, 2: 0 1, 3: 0 1", "0(1(a))", "5(3(a))", "5(2(3(a)))")
	g.Forbid = []api.Forbid{{Parent: 5, At: 1, Child: 2}}
	checkNode(t, "below what is forbidden", g, "a", with, root{0, 0, 1}, "2", "0: 0 1, 5: 0 1, 1: 0 1, 3: 0 1", "0(1(a))", "5(3(a))")
	checkNode(t, "the circle itself", g, "a", with, root{2, 0, 1}, "2 endless", "2: 0 1, 3: 0 1", "3(a)", "2(3(a))", "2(2(3(a)))")
	g.Forbid = append(g.Forbid, api.Forbid{Parent: 5, At: 1, Child: 3})
	checkNode(t, "all below it is forbidden", g, "a", with, root{0, 0, 1}, "1", "0: 0 1, 1: 0 1", "0(1(a))")
}

// What Forbid cuts: circles, at one symbol and not at another, of one production and not of another.
func TestForbid(t *testing.T) {
	g := read("S", "S = S", "S = [a]", "S = S", "forbid 0 1 0")
	once := list(g, "0: 0 1", "1: 0 1")
	checkNode(t, "a circle, cut", g, "a", once, root{0, 0, 1}, "2", "0: 0 1, 1: 0 1", "1(a)", "0(1(a))")
	if trees, _ := forest.Trees(g, "a", once, 0, 0, 1, 1000); len(trees) != 2 {
		t.Errorf("P11.3: %v", treeTexts(trees))
	}
	twice := list(g, "0: 0 1", "1: 0 1", "2: 0 1")
	checkNode(t, "a circle of two productions, cut at one", g, "a", twice, root{0, 0, 1}, "2 endless", "0: 0 1, 1: 0 1, 2: 0 1",
		"1(a)", "0(1(a))", "2(1(a))", "0(2(1(a)))", "2(0(1(a)))", "2(2(1(a)))")
	g.Forbid = append(g.Forbid, api.Forbid{Parent: 2, At: 1, Child: 2})
	checkNode(t, "a circle of two productions, each cut in itself", g, "a", twice, root{0, 0, 1}, "2 endless", "0: 0 1, 1: 0 1, 2: 0 1",
		"1(a)", "0(1(a))", "2(1(a))", "0(2(1(a)))", "2(0(1(a)))", "0(2(0(1(a))))")
	g.Forbid = append(g.Forbid, api.Forbid{Parent: 0, At: 1, Child: 2})
	checkNode(t, "a circle of two productions, cut", g, "a", twice, root{0, 0, 1}, "2", "0: 0 1, 1: 0 1, 2: 0 1",
		"1(a)", "0(1(a))", "2(1(a))", "2(0(1(a)))")

	g = read("E", "E = E [+] E", "E = [1]")
	alts := waysOf(t, g, "1+1+1")
	left, right := "0(0(1(1) + 1(1)) + 1(1))", "0(1(1) + 0(1(1) + 1(1)))"
	every := "1: 0 1, 0: 0 1 2 3, 0: 0 1 2 5, 0: 0 3 4 5, 1: 2 3, 0: 2 3 4 5, 1: 4 5"
	checkNode(t, "to both sides", g, "1+1+1", alts, root{0, 0, 5}, "2", every, left, right)
	g.Forbid = []api.Forbid{{Parent: 0, At: 3, Child: 0}}
	checkNode(t, "to the left", g, "1+1+1", alts, root{0, 0, 5}, "1", "1: 0 1, 0: 0 1 2 3, 0: 0 3 4 5, 1: 2 3, 1: 4 5", left)
	g.Forbid = []api.Forbid{{Parent: 0, At: 1, Child: 0}}
	checkNode(t, "to the right", g, "1+1+1", alts, root{0, 0, 5}, "1", "1: 0 1, 0: 0 1 2 5, 1: 2 3, 0: 2 3 4 5, 1: 4 5", right)
	g.Forbid = append(g.Forbid, api.Forbid{Parent: 0, At: 3, Child: 0})
	checkNode(t, "to neither side", g, "1+1+1", alts, root{0, 0, 5}, "0", "")
	checkNode(t, "to neither side, once", g, "1+1+1", alts, root{0, 2, 5}, "1", "1: 2 3, 0: 2 3 4 5, 1: 4 5", "0(1(1) + 1(1))")

	// One node at three symbols, of which each forbids something else; the other half of each is free.
	g = read("S A", "S = A A", "A = [a]", "A = [a]", "A = A", "S = A A", "S = A", "forbid 0 1 1", "forbid 0 2 2", "forbid 4 1 3", "forbid 4 2 3", "forbid 3 1 3", "forbid 5 1 1", "forbid 5 1 2")
	alts = waysOf(t, g, "aa")
	checkNode(t, "unlike things at each symbol", g, "aa", alts, root{0, 0, 2}, "2", "0: 0 1 2, 4: 0 1 2, 1: 0 1, 2: 0 1, 3: 0 1, 1: 1 2, 2: 1 2, 3: 1 2",
		"0(2(a) 1(a))", "4(1(a) 1(a))", "4(1(a) 2(a))", "4(2(a) 1(a))", "4(2(a) 2(a))",
		"0(2(a) 3(1(a)))", "0(2(a) 3(2(a)))", "0(3(1(a)) 1(a))", "0(3(2(a)) 1(a))",
		"0(3(1(a)) 3(1(a)))", "0(3(1(a)) 3(2(a)))", "0(3(2(a)) 3(1(a)))", "0(3(2(a)) 3(2(a)))")
	checkNode(t, "what is left of one", g, "a", waysOf(t, g, "a"), root{0, 0, 1}, "2", "5: 0 1, 1: 0 1, 2: 0 1, 3: 0 1", "5(3(1(a)))", "5(3(2(a)))")
}

// Follow, Prefer and Avoid change nothing; nor does the Start, or a production of RoleReject that matches.
func TestWhatDoesNotCount(t *testing.T) {
	g := read("S A", "S = A A", "A = [a]", "A = [a]", "S = [a] A")
	alts := list(g, "0: 0 1 2", "3: 0 1 2", "1: 0 1", "2: 0 1", "1: 1 2", "2: 1 2")
	want := ask(t, g, "aa", alts, root{0, 0, 2}, 9)
	checkNode(t, "plainly", g, "aa", alts, root{0, 0, 2}, "2", strings.Join(altTexts(alts), ", "), "3(a 1(a))", "3(a 2(a))", "0(1(a) 1(a))", "0(1(a) 2(a))", "0(2(a) 1(a))", "0(2(a) 2(a))")
	g.Prods[0].Avoid, g.Prods[1].Prefer, g.Prods[2].Avoid, g.Prods[3].Prefer = true, true, true, true
	g.Follow = []api.Follow{{Sort: 0, Not: readSet("[^]")}, {Sort: 1, Not: readSet("[a]")}}
	g.Prods = append(g.Prods, api.Prod{Right: []api.Sym{set("a"), set("a")}, Role: api.RoleReject, From: -1}, api.Prod{Left: 1, Right: []api.Sym{set("a")}, Role: api.RoleReject, From: -1})
	g.Start = 1
	if got := ask(t, g, "aa", alts, root{0, 0, 2}, 9); !reflect.DeepEqual(got, want) {
		t.Errorf("P11.2 to P11.4: %s, want %s", brief(got), brief(want))
	}
}

// The order of trees: by size; then by the first place where they are unlike, ahead of kids, from the left.
func TestOrder(t *testing.T) {
	g := read("S A B", "S = A B", "A = [a]", "A = B", "B = [a]", "B = [a]", "S = [a] A", "S = B B")
	alts := waysOf(t, g, "aa")
	alts = append(alts, list(g, "6: 0 1 2", "3: 0 1", "4: 0 1")...)
	slices.SortFunc(alts, compareAlts)
	alts = slices.CompactFunc(alts, func(a, b api.Alt) bool { return compareAlts(a, b) == 0 })
	checkNode(t, "by size, then by Prod from the left", g, "aa", alts, root{0, 0, 2}, "2", strings.Join(altTexts(alts), ", "),
		"5(a 1(a))", "0(1(a) 3(a))", "0(1(a) 4(a))", "5(a 2(3(a)))", "5(a 2(4(a)))", "6(3(a) 3(a))", "6(3(a) 4(a))", "6(4(a) 3(a))", "6(4(a) 4(a))",
		"0(2(3(a)) 3(a))", "0(2(3(a)) 4(a))", "0(2(4(a)) 3(a))", "0(2(4(a)) 4(a))")

	// Cuts do not count: the one that is cut later comes first, as its first kid's Prod is less.
	g = read("S A B", "S = A B", "A = [a] [a]", "A = [a]", "B = [a]", "B = [a] [a]")
	alts = waysOf(t, g, "aaa")
	checkNode(t, "Cuts do not count", g, "aaa", alts, root{0, 0, 3}, "2", "0: 0 1 3, 0: 0 2 3, 2: 0 1, 1: 0 1 2, 4: 1 2 3, 3: 2 3", "0(1(a a) 3(a))", "0(2(a) 4(a a))")

	// Deep down on the left, or far on the right.
	g = read("S", "S = S S", "S = [a]", "S = [a]")
	alts = waysOf(t, g, "aaa")
	checkNode(t, "deep down", g, "aaa", alts, root{0, 0, 3}, "2", strings.Join(altTexts(alts), ", "),
		"0(0(1(a) 1(a)) 1(a))", "0(0(1(a) 1(a)) 2(a))", "0(0(1(a) 2(a)) 1(a))", "0(0(1(a) 2(a)) 2(a))",
		"0(0(2(a) 1(a)) 1(a))", "0(0(2(a) 1(a)) 2(a))", "0(0(2(a) 2(a)) 1(a))", "0(0(2(a) 2(a)) 2(a))",
		"0(1(a) 0(1(a) 1(a)))", "0(1(a) 0(1(a) 2(a)))", "0(1(a) 0(2(a) 1(a)))", "0(1(a) 0(2(a) 2(a)))",
		"0(2(a) 0(1(a) 1(a)))", "0(2(a) 0(1(a) 2(a)))", "0(2(a) 0(2(a) 1(a)))", "0(2(a) 0(2(a) 2(a)))")
}

// nested tells all trees of S = S S, S = [a] over some bytes, in order.
func nested(bytes int) []api.Tree {
	a := api.Tree{Prod: 1, Kids: []api.Tree{{Prod: -1, Byte: 'a'}}}
	lists := [][]api.Tree{nil, {a}}
	for n := 2; n <= bytes; n++ {
		var l []api.Tree
		for first := 1; first < n; first++ {
			for _, x := range lists[first] {
				for _, y := range lists[n-first] {
					l = append(l, api.Tree{Kids: []api.Tree{x, y}})
				}
			}
		}
		lists = append(lists, l)
	}
	sortTrees(lists[bytes])
	return lists[bytes]
}

// The first 1000 of many trees; all of fewer.
func TestManyTrees(t *testing.T) {
	g := read("S", "S = S S", "S = [a]")
	for bytes := 1; bytes <= 11; bytes++ {
		text := strings.Repeat("a", bytes)
		alts, want := waysOf(t, g, text), nested(bytes)
		for _, most := range []int{1, 2, 7, 999, 1000} {
			got, e := forest.Trees(g, text, alts, 0, 0, bytes, most)
			if e != api.OK || !slices.Equal(treeTexts(got), treeTexts(want[:min(most, len(want))])) {
				t.Errorf("P11.3: %d bytes, most of %d: %d trees, %v", bytes, most, len(got), e)
			}
		}
	}
}

// 1000 trees of endlessly many, of a circle of one node and of several.
func TestEndlessTrees(t *testing.T) {
	g := read("S A", "S = S", "S = [a]", "S = A", "A = S")
	want := "1(a)"
	trees, e := forest.Trees(g, "a", list(g, "0: 0 1", "1: 0 1"), 0, 0, 1, api.MaxTrees)
	for i, tree := range trees {
		if treeText(tree) != want {
			t.Fatalf("P11.3: tree %d: %s", i, treeText(tree))
		}
		want = "0(" + want + ")"
	}
	if len(trees) != api.MaxTrees || e != api.OK {
		t.Errorf("P11.5: %d trees, %v", len(trees), e)
	}
	alts := list(g, "0: 0 1", "1: 0 1", "2: 0 1", "3: 0 1")
	trees, e = forest.Trees(g, "a", alts, 0, 0, 1, api.MaxTrees)
	// Of the size n + 2 there are as many as there are ways to go n down by one and by two.
	sizes := map[int]int{}
	for _, tree := range trees {
		sizes[sizeOf(tree)-2]++
	}
	ways, next := 1, 1
	for down := 0; down <= 13; down++ {
		if sizes[down] != ways {
			t.Errorf("P11.3: %d trees of size %d, want %d", sizes[down], down+2, ways)
		}
		ways, next = next, ways+next
	}
	got := ask(t, g, "a", alts, root{0, 0, 1}, api.MaxTrees)
	checkFollows(t, g, "a", alts, root{0, 0, 1}, api.MaxTrees, got)
	if len(trees) != api.MaxTrees || e != api.OK {
		t.Errorf("P11.5: %d trees, %v", len(trees), e)
	}
}

// chain tells a list over so many bytes of S = [a] S, or S = S [a], and S of nothing at its end.
func chain(bytes int, left bool) (api.Grammar, string, []api.Alt) {
	text := strings.Repeat("a", bytes)
	var alts []api.Alt
	if left {
		alts = append(alts, api.Alt{Prod: 1})
		for i := range bytes {
			alts = append(alts, api.Alt{Until: i + 1, Cuts: []int{i, i + 1}})
		}
		return read("S", "S = S [a]", "S ="), text, alts
	}
	for i := range bytes {
		alts = append(alts, api.Alt{From: i, Until: bytes, Cuts: []int{i + 1, bytes}})
	}
	return read("S", "S = [a] S", "S ="), text, append(alts, api.Alt{From: bytes, Until: bytes, Prod: 1})
}

// deepOf tells how deep a tree is nested.
func deepOf(tree api.Tree) int {
	deep := 0
	for _, k := range tree.Kids {
		deep = max(deep, deepOf(k))
	}
	return deep + 1
}

// Trees of MaxDepth go, deeper ones don't; whatever else there is of them is told.
func TestMaxDepth(t *testing.T) {
	for _, left := range []bool{false, true} {
		for _, bytes := range []int{100, api.MaxDepth - 1, api.MaxDepth, 1 << 17} {
			g, text, alts := chain(bytes, left)
			count, _ := forest.Count(g, alts, 0, 0, bytes)
			cyclic, _ := forest.Cyclic(g, alts, 0, 0, bytes)
			pruned, _ := forest.Prune(g, alts, 0, 0, bytes)
			alive, _ := forest.Alive(g, alts)
			if count != 1 || cyclic || len(pruned) != len(alts) || slices.Contains(alive, false) || len(alive) != len(alts) {
				t.Errorf("P11.1, P11.2, P11.4: %d bytes: %d %v %d", bytes, count, cyclic, len(pruned))
			}
			for _, most := range []int{0, 1, 2} {
				trees, e := forest.Trees(g, text, alts, 0, 0, bytes, most)
				switch {
				case most > 0 && bytes >= api.MaxDepth:
					if e != api.ErrLong || trees != nil {
						t.Errorf("P11.3: %d bytes: %d trees, %v", bytes, len(trees), e)
					}
				case e != api.OK || len(trees) != min(most, 1):
					t.Errorf("P11.3: %d bytes: %d trees, %v", bytes, len(trees), e)
				case most > 0 && (deepOf(trees[0]) != bytes+1 || kernel.CheckTree(g, trees[0]) != api.OK):
					t.Errorf("P11.3: %d bytes: a tree of depth %d", bytes, deepOf(trees[0]))
				}
			}
		}
	}
}

// circle tells a list of so many sorts, of which each is the next one, round and round; the last one is something else too.
func circle(sorts int, out string, text int) (api.Grammar, []api.Alt) {
	var names, lines []string
	var alts []api.Alt
	for i := range sorts {
		names = append(names, fmt.Sprint("S", i))
		lines = append(lines, fmt.Sprintf("S%d = S%d", i, (i+1)%sorts))
		alts = append(alts, api.Alt{Sort: i, Until: text, Prod: i, Cuts: []int{text}})
	}
	lines = append(lines, fmt.Sprintf("S%d = %s", sorts-1, out))
	return read(strings.Join(names, " "), lines...), append(alts, api.Alt{Sort: sorts - 1, Until: text, Prod: sorts, Cuts: slices.Repeat([]int{text}, text)})
}

// The first trees go, as long as none of them is too deep: of a circle each one is deeper than the one ahead by as many as there are sorts.
func TestMaxDepthOfCircles(t *testing.T) {
	for _, sorts := range []int{128, 145, 16, 1} {
		for text, out := range []string{"", "[a]"} {
			g, alts := circle(sorts, out, text)
			for _, most := range []int{0, 1, 2, 16384/sorts - 1, 16384 / sorts, 16384/sorts + 1} {
				if most > api.MaxTrees {
					continue
				}
				trees, e := forest.Trees(g, strings.Repeat("a", text), alts, 0, 0, text, most)
				if goes := most*sorts+text <= api.MaxDepth; goes != (e == api.OK) || goes && len(trees) != most || !goes && (e != api.ErrLong || trees != nil) {
					t.Errorf("P11.3: %d sorts, most of %d: %d trees, %v", sorts, most, len(trees), e)
				}
				if most > 2 && e == api.OK && deepOf(trees[most-1]) != most*sorts+text {
					t.Errorf("P11.3: %d sorts: tree %d is %d deep", sorts, most, deepOf(trees[most-1]))
				}
			}
		}
	}
}

// doubled tells a list of sorts of which each has two of the next one, the last one nothing: so many over the other; and S = S0 [a] beside S = [a].
func doubled(sorts int) (api.Grammar, []api.Alt) {
	g := read("S S0", "S = [a]", "S = S0 [a]")
	g.Prods[1].Right[0].Sort = 1
	alts := list(g, "0: 0 1", "1: 0 0 1")
	for i := range sorts {
		if i > 0 {
			g.Sorts = append(g.Sorts, fmt.Sprint("S", i))
		}
		p := api.Prod{Left: i + 1, From: -1}
		if i < sorts-1 {
			p.Right = []api.Sym{sort(i + 2), sort(i + 2)}
		}
		g.Prods = append(g.Prods, p)
		alts = append(alts, api.Alt{Sort: i + 1, Prod: i + 2, Cuts: make([]int, len(p.Right))})
	}
	return g, alts
}

// Trees that are larger than any number: all about them is told, but not they.
func TestHugeTrees(t *testing.T) {
	for _, sorts := range []int{1, 2, 3, 10, 15, 31, 32, 40, 63, 64, 65, 500, 998} {
		g, alts := doubled(sorts)
		if e := forest.Check(g, "a", alts); e != api.OK {
			t.Fatal(e)
		}
		count, _ := forest.Count(g, alts, 0, 0, 1)
		cyclic, _ := forest.Cyclic(g, alts, 0, 0, 1)
		pruned, _ := forest.Prune(g, alts, 0, 0, 1)
		if count != 2 || cyclic || len(pruned) != len(alts) {
			t.Errorf("P11.2, P11.4: %d sorts: %d %v %d", sorts, count, cyclic, len(pruned))
		}
		trees, e := forest.Trees(g, "a", alts, 0, 0, 1, 1)
		if e != api.OK || !slices.Equal(treeTexts(trees), []string{"0(a)"}) {
			t.Errorf("P11.3: %d sorts: %v %v", sorts, treeTexts(trees), e)
		}
		trees, e = forest.Trees(g, "a", alts, 0, 0, 1, 2)
		switch {
		case sorts >= 31:
			if e != api.ErrLong || trees != nil {
				t.Errorf("P11.3: %d sorts: %d trees, %v", sorts, len(trees), e)
			}
		case e != api.OK || len(trees) != 2 || sizeOf(trees[1]) != 1<<sorts+1:
			t.Errorf("P11.3: %d sorts: %d trees, %v", sorts, len(trees), e)
		}
	}
}

// A list of as many productions and symbols as may be, in circles, with all forbidden but one at each.
func TestFull(t *testing.T) {
	g := read("S", "S = [a]", "S =")
	g.Prods = append(g.Prods, slices.Repeat([]api.Prod{{Right: []api.Sym{sort(0)}, From: -1}}, api.MaxProds-2)...)
	alts := list(g, "0: 0 1")
	for prod := 2; prod < api.MaxProds; prod++ {
		alts = append(alts, api.Alt{Until: 1, Prod: prod, Cuts: []int{1}})
	}
	got := ask(t, g, "a", alts, root{0, 0, 1}, api.MaxTrees)
	if got.count != 2 || !got.cyclic || len(got.pruned) != len(alts) || treeText(got.trees[0]) != "0(a)" || treeText(got.trees[998]) != "999(0(a))" || treeText(got.trees[999]) != "2(2(0(a)))" {
		t.Errorf("P11.2 to P11.4: %d %v %d", got.count, got.cyclic, len(got.pruned))
	}
	for parent := 2; parent < api.MaxProds; parent++ {
		for child := range api.MaxProds {
			if child != (parent+1)%api.MaxProds {
				g.Forbid = append(g.Forbid, api.Forbid{Parent: parent, At: 1, Child: child})
			}
		}
	}
	got = ask(t, g, "a", alts, root{0, 0, 1}, 5)
	if got.count != 2 || got.cyclic || len(got.pruned) != len(alts) || !slices.Equal(treeTexts(got.trees), []string{"0(a)", "999(0(a))", "998(999(0(a)))", "997(998(999(0(a))))", "996(997(998(999(0(a)))))"}) {
		t.Errorf("P11.2 to P11.4: %d %v %d %v", got.count, got.cyclic, len(got.pruned), treeTexts(got.trees))
	}

	// 30 symbols, each of a byte or nothing, over 15 bytes: the first ones are nothing last.
	g = read("S A", "S = "+strings.Repeat("A ", api.MaxRight), "A = [a]", "A =")
	alts = nil
	for from := range 16 {
		alts = append(alts, api.Alt{Sort: 1, From: from, Until: from, Prod: 2})
		if from < 15 {
			alts = append(alts, api.Alt{Sort: 1, From: from, Until: from + 1, Prod: 1, Cuts: []int{from + 1}})
		}
	}
	die := rand.New(rand.NewSource(112))
	for range 2000 {
		a := api.Alt{Until: 15}
		for _, i := range die.Perm(api.MaxRight)[:15] {
			a.Cuts = append(a.Cuts, i)
		}
		slices.Sort(a.Cuts)
		l, at := a.Cuts, 0
		a.Cuts = nil
		for i := range api.MaxRight {
			if slices.Contains(l, i) {
				at++
			}
			a.Cuts = append(a.Cuts, at)
		}
		alts = append(alts, a)
	}
	slices.SortFunc(alts, compareAlts)
	alts = slices.CompactFunc(alts, func(a, b api.Alt) bool { return compareAlts(a, b) == 0 })
	got = ask(t, g, strings.Repeat("a", 15), alts, root{0, 0, 15}, api.MaxTrees)
	checkFollows(t, g, strings.Repeat("a", 15), alts, root{0, 0, 15}, api.MaxTrees, got)
	if len(got.trees) != api.MaxTrees || len(got.pruned) != len(alts) {
		t.Errorf("P11.3: %d trees, %d of %d alternatives", len(got.trees), len(got.pruned), len(alts))
	}
}

// Random trees of a grammar: those of their text are among all of its ways.
func TestRandomTrees(t *testing.T) {
	die := rand.New(rand.NewSource(113))
	found, alone := 0, 0
	for i := range 3000 {
		g, e := kernel.Trim(randomGrammar(die, 1+i%4, 2+i%8, 1+i%4))
		if e != api.OK {
			continue
		}
		tree := grown(die, g, heights(g), g.Start, 2+die.Intn(4))
		text, _ := kernel.Yield(tree)
		if len(text) > 8 {
			continue
		}
		alts, n := waysOf(t, g, text), root{g.Start, 0, len(text)}
		got := ask(t, g, text, alts, n, 50)
		if forbids(g, tree) {
			if slices.Contains(treeTexts(got.trees), treeText(tree)) {
				t.Fatalf("P11.5: %s is forbidden", treeText(tree))
			}
			continue
		}
		left := altTexts(got.pruned)
		met := map[string]bool{}
		madeOf(g, tree, 0, met)
		for a := range met {
			if !slices.Contains(left, a) {
				t.Fatalf("P11.4: %s is not left of %s\n%s", a, treeText(tree), kernel.Text(g))
			}
		}
		if last := len(got.trees) - 1; last == 49 && compareTrees(got.trees[last], tree) < 0 {
			continue
		}
		if !slices.Contains(treeTexts(got.trees), treeText(tree)) {
			t.Fatalf("P11.3: no %s of\n%s%v\n%s", treeText(tree), kernel.Text(g), g.Forbid, strings.Join(treeTexts(got.trees), "\n"))
		}
		checkFollows(t, g, text, alts, n, 50, got)
		found++
		if len(got.trees) == 1 {
			alone++
		}
	}
	if found < 800 || alone < 100 || alone > found*9/10 {
		t.Errorf("%d trees, %d of them alone", found, alone)
	}
}

// heights tells of each sort how flat its flattest trees are; 0 of one that has none.
func heights(g api.Grammar) []int {
	out := make([]int, len(g.Sorts))
	for height := 1; height <= len(g.Sorts); height++ {
		for _, p := range g.Prods {
			high := slices.ContainsFunc(p.Right, func(s api.Sym) bool {
				return s.Kind == api.SymSort && (out[s.Sort] == 0 || out[s.Sort] >= height)
			})
			if !high && out[p.Left] == 0 && p.Role != api.RoleReject {
				out[p.Left] = height
			}
		}
	}
	return out
}

// grown tells a tree of a sort that has some: of any production, while it may be deep, then of those that make it flat.
func grown(die *rand.Rand, g api.Grammar, flattest []int, sort, deep int) api.Tree {
	var l []int
	for n, p := range g.Prods {
		may := !slices.ContainsFunc(p.Right, func(s api.Sym) bool {
			return s.Kind == api.SymSort && (flattest[s.Sort] == 0 || deep <= 0 && flattest[s.Sort] >= flattest[sort])
		})
		if may && p.Left == sort && p.Role != api.RoleReject {
			l = append(l, n)
		}
	}
	tree := api.Tree{Prod: pick(die, l...)}
	for _, s := range g.Prods[tree.Prod].Right {
		if s.Kind == api.SymSort {
			tree.Kids = append(tree.Kids, grown(die, g, flattest, s.Sort, deep-1))
		} else {
			tree.Kids = append(tree.Kids, api.Tree{Prod: -1, Byte: pick(die, slices.Collect(sets.Bytes(s.Set))...)})
		}
	}
	return tree
}
