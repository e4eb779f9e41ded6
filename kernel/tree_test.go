package kernel_test

import (
	"math"
	"slices"
	"strings"
	"sync"
	"testing"

	"rosetta/api"
	"rosetta/kernel"
)

// tooDeep is a tree that is nested one deeper than may be: productions 0 with a kid each, at last one without.
var tooDeep = sync.OnceValue(func() api.Tree { return wrapped(node(0), api.MaxDepth) })

// wrapped puts a tree into so many others, of production 0 with a kid each.
func wrapped(t api.Tree, times int) api.Tree {
	for range times {
		t = node(0, t)
	}
	return t
}

func checkTree(t *testing.T, g api.Grammar, tree api.Tree, want api.Errno) {
	t.Helper()
	if e := kernel.CheckTree(g, tree); e != want {
		t.Errorf("P6.2: CheckTree(%q, %s): %v, want %v", brief(kernel.Text(g)), brief(tree), e, want)
	}
}

func checkYield(t *testing.T, tree api.Tree, want string, err api.Errno) {
	t.Helper()
	if text, e := kernel.Yield(tree); text != want || e != err {
		t.Errorf("P6.2: Yield(%s): %q %v, want %q %v", brief(tree), brief(text), e, brief(want), err)
	}
}

// treeGrammar has a production of sets and of sorts, one without symbols, one that is rejected, and one of another sort with the same symbols.
func treeGrammar() api.Grammar {
	return read("S A B", "S = A [xy] S", "S =", "A = [a]", "A = [b] : reject", "A = : reject", "B = [a]", "S = A : prefer", "A = S", "forbid 6 1 2", "follow A [xy]")
}

func TestCheckTree(t *testing.T) {
	g := treeGrammar()
	a, x, empty := node(2, byteTree('a')), byteTree('x'), node(1)
	for _, tree := range []api.Tree{
		empty, a, node(0, a, x, empty), node(0, a, byteTree('y'), node(0, a, x, empty)), node(5, byteTree('a')), // of whatever sort
		node(7, empty), node(0, node(7, empty), x, empty), node(0, node(7, node(0, a, x, empty)), x, node(6, node(7, empty))),
		node(6, a), // though it is forbidden
		node(0, node(7, node(6, a)), x, node(6, a)), // and though x may not follow
		{Prod: 1, Kids: []api.Tree{}}, {Prod: 2, Kids: []api.Tree{{Prod: -1, Byte: 'a', Kids: []api.Tree{}}}},
	} {
		checkTree(t, g, tree, api.OK)
	}
	for _, bad := range []api.Tree{
		{Prod: -1}, byteTree('a'), byteTree('x'), // a byte alone
		{Prod: -2}, {Prod: math.MinInt}, {Prod: math.MaxInt}, {Prod: 8}, node(8, byteTree('a')), // no such production
		node(3, byteTree('b')), node(4), // of RoleReject
		{Prod: 1, Byte: 'x'}, {Prod: 2, Byte: 'a', Kids: a.Kids}, {Prod: 1, Byte: 255}, {Prod: 6, Byte: 1, Kids: []api.Tree{a}}, // a Byte where none may be
		node(2), node(2, byteTree('a'), byteTree('a')), node(1, empty), node(1, byteTree('a')), // too few, too many
		node(0), node(0, a), node(0, a, x), node(0, a, x, empty, empty), node(0, a, x, empty, x), node(6), node(6, a, a),
		node(2, byteTree('b')), node(2, byteTree(0)), node(2, byteTree('a'+64)), node(0, a, byteTree('a'), empty), // not in the set
		node(2, api.Tree{Prod: -2, Byte: 'a'}), node(2, api.Tree{Prod: 0, Byte: 'a'}), node(2, api.Tree{Prod: 1, Byte: 'a'}), node(2, api.Tree{Prod: math.MinInt, Byte: 'a'}), // no byte's
		node(2, api.Tree{Prod: -1, Byte: 'a', Kids: []api.Tree{empty}}), node(2, api.Tree{Prod: -1, Byte: 'a', Kids: []api.Tree{{Prod: -1}}}), node(0, a, api.Tree{Prod: -1, Byte: 'x', Kids: []api.Tree{{}}}, empty), // Kids below a byte
		node(2, a), node(2, empty), node(0, a, empty, empty), // a production's where a byte may be
		node(0, empty, x, empty), node(0, a, x, a), node(0, node(5, byteTree('a')), x, empty), node(6, node(5, byteTree('a'))), node(7, a), // of another sort
		node(0, byteTree('a'), x, empty), node(0, a, x, byteTree('a')), node(6, byteTree('a')), // a byte where a sort's may be
		node(0, node(3, byteTree('b')), x, empty), node(6, node(4)), // of RoleReject, within
		node(0, node(8), x, empty), node(6, api.Tree{Prod: -2}), node(6, api.Tree{Prod: math.MaxInt}), // no such production, within
		node(0, a, x, node(0, a, x, node(0, a, x, node(0, a, x)))), node(0, a, x, node(0, a, byteTree('z'), empty)), // far within
		node(0, api.Tree{Prod: 2, Byte: 'x', Kids: a.Kids}, x, empty), node(0, a, x, api.Tree{Prod: 1, Byte: 1}),
		node(0, x, a, empty), node(0, empty, x, a), // in another order
	} {
		checkTree(t, g, bad, api.ErrTree)
	}
	one := read("S", "S = [\\x00]", "S = [\\xff]", "S = S S")
	checkTree(t, one, node(2, node(0, byteTree(0)), node(1, byteTree(255))), api.OK)
	checkTree(t, one, node(2, node(1, byteTree(0)), node(1, byteTree(255))), api.ErrTree)
	checkTree(t, one, node(2, node(0, byteTree(0)), node(0, byteTree(255))), api.ErrTree)
	checkTree(t, one, node(0, api.Tree{}), api.ErrTree)
	checkTree(t, read("S"), api.Tree{}, api.ErrTree)
	// Neither must the grammar be well formed, nor the tree of its Start.
	checkTree(t, read("S A", "S = S", "A = [a]"), node(1, byteTree('a')), api.OK)
	for _, bad := range refused() {
		checkTree(t, bad, api.Tree{}, api.ErrGrammar)
		checkTree(t, bad, a, api.ErrGrammar)
		checkTree(t, bad, tooDeep(), api.ErrGrammar) // ahead of ErrLong
	}
}

func TestDepth(t *testing.T) {
	g := read("S", "S = S", "S = [a]", "S =", "S = S S S")
	a := node(1, byteTree('a')) // two deep
	most := api.MaxDepth
	checkTree(t, g, wrapped(node(2), most-1), api.OK)
	checkTree(t, g, wrapped(a, most-2), api.OK)
	checkTree(t, g, wrapped(node(2), most), api.ErrLong)
	checkTree(t, g, wrapped(a, most-1), api.ErrLong)
	checkTree(t, g, wrapped(a, 4*most), api.ErrLong)
	for i := range 3 { // in whichever kid
		within := func(deep int) api.Tree {
			kids := slices.Repeat([]api.Tree{a}, 3)
			kids[i] = wrapped(a, deep-3)
			return node(3, kids...)
		}
		checkTree(t, g, within(most), api.OK)
		checkTree(t, g, within(most+1), api.ErrLong)
	}
	checkYield(t, wrapped(a, most-2), "a", api.OK)
	checkYield(t, wrapped(a, most-1), "", api.ErrLong)
	checkYield(t, wrapped(node(2), most-1), "", api.OK)
	checkYield(t, wrapped(node(2), most), "", api.ErrLong)
	checkYield(t, node(3, a, a, wrapped(a, most)), "", api.ErrLong)
	// ErrLong is ahead of ErrTree, wherever the fault stands.
	for _, bad := range []api.Tree{{Prod: 9}, {Prod: -1}, {Prod: 2, Byte: 1}, node(1, byteTree('b'))} {
		checkTree(t, g, wrapped(bad, 100), api.ErrTree)
		checkTree(t, g, wrapped(bad, most), api.ErrLong)
		checkTree(t, g, node(9, wrapped(a, most)), api.ErrLong)
		checkTree(t, g, node(3, bad, bad, wrapped(a, most)), api.ErrLong)
		checkTree(t, g, node(3, wrapped(a, most), bad), api.ErrLong)
	}
	// What stands below a byte nests, too.
	below := func(deep int) api.Tree { return api.Tree{Prod: -1, Byte: 'a', Kids: []api.Tree{wrapped(a, deep-3)}} }
	checkTree(t, g, below(most), api.ErrTree)
	checkTree(t, g, node(1, below(most-1)), api.ErrTree)
	checkTree(t, g, below(most+1), api.ErrLong)
	checkTree(t, g, node(1, below(most)), api.ErrLong)
	checkYield(t, below(most), "a", api.OK)
	checkYield(t, below(most+1), "", api.ErrLong)
}

func TestYield(t *testing.T) {
	a, b := byteTree('a'), byteTree('b')
	checkYield(t, api.Tree{}, "", api.OK)
	checkYield(t, a, "a", api.OK)
	checkYield(t, byteTree(0), "\x00", api.OK)
	checkYield(t, byteTree(200), "\xc8", api.OK)
	checkYield(t, node(0, a, node(1), node(2, b, a), b), "abab", api.OK)
	checkYield(t, node(0, node(0, node(0, b), a), a), "baa", api.OK)
	// No grammar is asked: numbers that are no production's, bytes that stand nowhere.
	checkYield(t, node(math.MaxInt, a, node(1<<40, b)), "ab", api.OK)
	checkYield(t, api.Tree{Prod: -2, Byte: 'x'}, "x", api.OK)
	checkYield(t, api.Tree{Prod: math.MinInt, Byte: 'x', Kids: []api.Tree{a, b}}, "x", api.OK)
	checkYield(t, node(5, api.Tree{Prod: -7, Byte: 'x', Kids: []api.Tree{a}}, b), "xb", api.OK)
	checkYield(t, api.Tree{Prod: 3, Byte: 'x', Kids: []api.Tree{a, {Prod: 4, Byte: 'y'}}}, "a", api.OK)
	checkYield(t, api.Tree{Prod: 3, Byte: 'x'}, "", api.OK)
	var all []api.Tree
	var want []byte
	for n := range 256 {
		all, want = append(all, byteTree(byte(n))), append(want, byte(n))
	}
	checkYield(t, node(1, all...), string(want), api.OK)
	// The chapter bounds how deep it is, not how long its text.
	checkYield(t, node(0, slices.Repeat([]api.Tree{a}, api.MaxText+1)...), strings.Repeat("a", api.MaxText+1), api.OK)
}
