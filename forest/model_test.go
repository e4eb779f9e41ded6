package forest_test

import (
	"cmp"
	"fmt"
	"math"
	"math/rand"
	"slices"
	"strings"
	"testing"

	"rosetta/api"
	"rosetta/forest"
	"rosetta/glr"
	"rosetta/kernel"
	"rosetta/sets"
)

func compareAlts(a, b api.Alt) int {
	return cmp.Or(cmp.Compare(a.Sort, b.Sort), cmp.Compare(a.From, b.From), cmp.Compare(a.Until, b.Until), cmp.Compare(a.Prod, b.Prod), slices.Compare(a.Cuts, b.Cuts))
}

// waysOf tells the list of all ways through a text.
func waysOf(t *testing.T, g api.Grammar, text string) []api.Alt {
	t.Helper()
	w, e := glr.Run(g, text, math.MaxInt)
	if e != api.OK {
		t.Fatal(e)
	}
	return w.Alts
}

// plain is a list of alternatives, of which all is told as the chapter's words say it, round by round.
type plain struct {
	g    api.Grammar
	text string
	alts []api.Alt
	kids [][][]int // by alternatives and their symbols: of a sort, the alternatives that may stand there
}

func plainOf(g api.Grammar, text string, alts []api.Alt) *plain {
	m := &plain{g: g, text: text, alts: alts}
	for _, a := range alts {
		var symbols [][]int
		for k, s := range g.Prods[a.Prod].Right {
			var may []int
			for i, b := range alts {
				from := a.From
				if k > 0 {
					from = a.Cuts[k-1]
				}
				forbidden := slices.Contains(g.Forbid, api.Forbid{Parent: a.Prod, At: k + 1, Child: b.Prod})
				if s.Kind == api.SymSort && b.Sort == s.Sort && b.From == from && b.Until == a.Cuts[k] && !forbidden {
					may = append(may, i)
				}
			}
			symbols = append(symbols, may)
		}
		m.kids = append(m.kids, symbols)
	}
	return m
}

// isSort tells whether a symbol of an alternative is a sort.
func (m *plain) isSort(alt, k int) bool {
	return m.g.Prods[m.alts[alt].Prod].Right[k].Kind == api.SymSort
}

// at tells the alternatives of a node.
func (m *plain) at(n root) []int {
	var out []int
	for i, a := range m.alts {
		if (root{a.Sort, a.From, a.Until}) == n {
			out = append(out, i)
		}
	}
	return out
}

// counts tells how many trees each alternative has that are not nested deeper than so many alternatives and as many again: three for more.
func (m *plain) counts() []int {
	count := make([]int, len(m.alts))
	for range 2*len(m.alts) + 3 {
		next := make([]int, len(m.alts))
		for alt := range m.alts {
			next[alt] = 1
			for k, may := range m.kids[alt] {
				sum := 0
				for _, kid := range may {
					sum += count[kid]
				}
				if m.isSort(alt, k) {
					next[alt] = min(next[alt]*sum, 3)
				}
			}
		}
		count = next
	}
	return count
}

// endless tells which alternatives have a tree that is nested deeper than there are alternatives: on the way down one stands twice.
func (m *plain) endless(count []int) []bool {
	deep := make([]bool, len(m.alts))
	for alt, n := range count {
		deep[alt] = n > 0
	}
	for range len(m.alts) + 1 {
		next := make([]bool, len(m.alts))
		for alt, symbols := range m.kids {
			for _, may := range symbols {
				for _, kid := range may {
					next[alt] = next[alt] || count[alt] > 0 && deep[kid]
				}
			}
		}
		deep = next
	}
	return deep
}

// has tells which alternatives have a tree that is made of one of them, beside others.
func (m *plain) has(count []int, of int) []bool {
	has := make([]bool, len(m.alts))
	has[of] = count[of] > 0
	for more := true; more; {
		more = false
		for alt, symbols := range m.kids {
			for _, may := range symbols {
				for _, kid := range may {
					if !has[alt] && count[alt] > 0 && has[kid] {
						has[alt], more = true, true
					}
				}
			}
		}
	}
	return has
}

// trees makes all trees of all alternatives, one size after the other, up to a size, while they are not too many; and tells up to which.
func (m *plain) trees(size int) ([]map[int][]api.Tree, int) {
	sizes := []map[int][]api.Tree{{}}
	made := 0
	for n := 1; n <= size && made < 1200; n++ {
		sizes = append(sizes, map[int][]api.Tree{})
		for alt, a := range m.alts {
			for _, kids := range m.together(sizes, alt, 0, n-1) {
				sizes[n][alt] = append(sizes[n][alt], api.Tree{Prod: a.Prod, Kids: kids})
				made++
			}
		}
	}
	return sizes, len(sizes) - 1
}

// together tells all lists of kids of an alternative from a symbol on, which have so many trees in all.
func (m *plain) together(sizes []map[int][]api.Tree, alt, k, size int) [][]api.Tree {
	if k == len(m.kids[alt]) {
		if size == 0 {
			return [][]api.Tree{nil}
		}
		return nil
	}
	var out [][]api.Tree
	put := func(t api.Tree, size int) {
		for _, rest := range m.together(sizes, alt, k+1, size) {
			out = append(out, append([]api.Tree{t}, rest...))
		}
	}
	if !m.isSort(alt, k) {
		if size > 0 {
			put(api.Tree{Prod: -1, Byte: m.text[m.alts[alt].Cuts[k]-1]}, size-1)
		}
		return out
	}
	for n := 1; n <= size && n < len(sizes); n++ {
		for _, kid := range m.kids[alt][k] {
			for _, t := range sizes[n][kid] {
				put(t, size-n)
			}
		}
	}
	return out
}

// walked tells a tree's productions and bytes, each tree ahead of its kids.
func walked(t api.Tree) []int {
	out := []int{t.Prod, int(t.Byte)}
	for _, k := range t.Kids {
		out = append(out, walked(k)...)
	}
	return out
}

// compareTrees tells which tree stands first.
func compareTrees(a, b api.Tree) int {
	x, y := walked(a), walked(b)
	return cmp.Or(len(x)-len(y), slices.Compare(x, y))
}

// sortTrees puts trees in order.
func sortTrees(trees []api.Tree) {
	type entry struct {
		walked []int
		tree   api.Tree
	}
	var l []entry
	for _, t := range trees {
		l = append(l, entry{walked(t), t})
	}
	slices.SortFunc(l, func(a, b entry) int { return cmp.Or(len(a.walked)-len(b.walked), slices.Compare(a.walked, b.walked)) })
	for i, x := range l {
		trees[i] = x.tree
	}
}

func sizeOf(t api.Tree) int { return len(walked(t)) / 2 }

// forbids tells whether a tree has in it what is forbidden.
func forbids(g api.Grammar, t api.Tree) bool {
	for i, k := range t.Kids {
		if slices.Contains(g.Forbid, api.Forbid{Parent: t.Prod, At: i + 1, Child: k.Prod}) || forbids(g, k) {
			return true
		}
	}
	return false
}

// madeOf adds the alternatives that a tree is made of, and tells where it ends.
func madeOf(g api.Grammar, t api.Tree, from int, met map[string]bool) int {
	a := api.Alt{Sort: g.Prods[t.Prod].Left, From: from, Until: from, Prod: t.Prod}
	for _, k := range t.Kids {
		if k.Prod < 0 {
			a.Until++
		} else {
			a.Until = madeOf(g, k, a.Until, met)
		}
		a.Cuts = append(a.Cuts, a.Until)
	}
	met[altTexts([]api.Alt{a})[0]] = true
	return a.Until
}

// checkFollows asks what follows of a node's trees by themselves (P11.5), and that what Prune leaves tells the same.
func checkFollows(t *testing.T, g api.Grammar, text string, alts []api.Alt, n root, most int, got told) {
	t.Helper()
	left := map[string]bool{}
	for _, a := range altTexts(got.pruned) {
		left[a] = true
	}
	for i, tree := range got.trees {
		if i > 0 && compareTrees(got.trees[i-1], tree) >= 0 {
			t.Fatalf("P11.3: %v: not in order: %s, %s", n, treeText(got.trees[i-1]), treeText(tree))
		}
		if e := kernel.CheckTree(g, tree); e != api.OK || g.Prods[tree.Prod].Left != n.sort || forbids(g, tree) {
			t.Fatalf("P11.5: %v: %v of %s", n, e, treeText(tree))
		}
		if s, e := kernel.Yield(tree); e != api.OK || s != text[n.from:n.until] {
			t.Fatalf("P11.5: %v: %q by %s", n, s, treeText(tree))
		}
		met := map[string]bool{}
		madeOf(g, tree, n.from, met)
		for a := range met {
			if !left[a] {
				t.Fatalf("P11.4: %v: %s is not left, but in %s", n, a, treeText(tree))
			}
		}
	}
	if most := min(most, 2); min(len(got.trees), most) != min(got.count, most) || got.cyclic && got.count != 2 {
		t.Fatalf("P11.5: %v: %d trees, Count %d, Cyclic %v", n, len(got.trees), got.count, got.cyclic)
	}
	if got.cyclic && len(got.trees) != most {
		t.Fatalf("P11.5: %v: %d trees of endlessly many, most of %d", n, len(got.trees), most)
	}
	if forest.Check(g, text, got.pruned) != api.OK {
		t.Fatalf("P11.4: %v: no list: %v", n, altTexts(got.pruned))
	}
	again := ask(t, g, text, got.pruned, n, most)
	if again.count != got.count || again.cyclic != got.cyclic || !slices.Equal(treeTexts(again.trees), treeTexts(got.trees)) || !slices.Equal(altTexts(again.pruned), altTexts(got.pruned)) {
		t.Fatalf("P11.5: %v: what Prune leaves: %s, all %s", n, brief(again), brief(got))
	}
}

// checkModel asks that all calls tell of a list, and of each of its nodes, what is told plainly; and tells how many trees it was, and how many nodes had endlessly many.
func checkModel(t *testing.T, g api.Grammar, text string, alts []api.Alt) (int, int) {
	t.Helper()
	m := plainOf(g, text, alts)
	count := m.counts()
	endless := m.endless(count)
	alive, e := forest.Alive(g, alts)
	if e != api.OK || forest.Check(g, text, alts) != api.OK || len(alive) != len(alts) {
		t.Fatalf("P11.1: %v %v", e, alive)
	}
	nodes := map[root][]int{}
	for i, a := range alts {
		if alive[i] != (count[i] > 0) {
			t.Fatalf("P11.1: %q: %s is alive: %v\n%s\n%v\n%v", text, altTexts(alts[i:i+1]), alive[i], kernel.Text(g), g.Forbid, altTexts(alts))
		}
		n := root{a.Sort, a.From, a.Until}
		nodes[n] = append(nodes[n], i)
	}
	sizes, most := m.trees(13)
	many, endlessly := 0, 0
	for n, own := range nodes {
		want := told{}
		for _, alt := range own {
			want.count = min(want.count+count[alt], 2)
			want.cyclic = want.cyclic || endless[alt]
			for _, l := range sizes {
				want.trees = append(want.trees, l[alt]...)
			}
		}
		for alt, a := range alts {
			has := m.has(count, alt)
			if slices.ContainsFunc(own, func(i int) bool { return has[i] }) {
				want.pruned = append(want.pruned, a)
			}
		}
		sortTrees(want.trees)
		checkTold(t, g, text, alts, n, want, most)
		many += len(want.trees)
		if want.cyclic {
			endlessly++
		}
	}
	return many, endlessly
}

// checkTold asks that all calls tell of a node what is told plainly: all trees up to a size.
func checkTold(t *testing.T, g api.Grammar, text string, alts []api.Alt, n root, want told, size int) {
	t.Helper()
	why := func() string {
		return fmt.Sprintf("%q, %v\n%s%v\n%s", text, n, kernel.Text(g), g.Forbid, strings.Join(altTexts(alts), "\n"))
	}
	for _, most := range []int{0, 1, 2, 30} {
		got := ask(t, g, text, alts, n, most)
		if got.count != want.count || got.cyclic != want.cyclic {
			t.Fatalf("P11.2: Count %d, Cyclic %v, want %d, %v: %s", got.count, got.cyclic, want.count, want.cyclic, why())
		}
		if !slices.Equal(altTexts(got.pruned), altTexts(want.pruned)) {
			t.Fatalf("P11.4: Prune: %v, want %v: %s", altTexts(got.pruned), altTexts(want.pruned), why())
		}
		var small []api.Tree
		for _, tree := range got.trees {
			if sizeOf(tree) <= size {
				small = append(small, tree)
			}
		}
		if wanted := want.trees[:min(len(want.trees), most)]; !slices.Equal(treeTexts(small), treeTexts(wanted)) {
			t.Fatalf("P11.3: Trees, most of %d:\n%s\nwant\n%s\n%s", most, strings.Join(treeTexts(small), "\n"), strings.Join(treeTexts(wanted), "\n"), why())
		}
		checkFollows(t, g, text, alts, n, most, got)
	}
}

func pick[T any](die *rand.Rand, l ...T) T { return l[die.Intn(len(l))] }

// textsOf tells all texts of some bytes, up to a length.
func textsOf(bytes string, length int) []string {
	out, last := []string{""}, []string{""}
	for range length {
		var next []string
		for _, text := range last {
			for _, b := range []byte(bytes) {
				next = append(next, text+string([]byte{b}))
			}
		}
		out, last = append(out, next...), next
	}
	return out
}

// allAlts tells all alternatives that a list of a grammar and a text may have, in order: those too that no way leads to.
func allAlts(g api.Grammar, text string) []api.Alt {
	var out []api.Alt
	for number, p := range g.Prods {
		var walk func(from, at int, cuts []int)
		walk = func(from, at int, cuts []int) {
			if len(cuts) == len(p.Right) {
				out = append(out, api.Alt{Sort: p.Left, From: from, Until: at, Prod: number, Cuts: slices.Clone(cuts)})
				return
			}
			for next := at; next <= len(text); next++ {
				if s := p.Right[len(cuts)]; s.Kind == api.SymSort || next == at+1 && sets.Has(s.Set, text[at]) {
					walk(from, next, append(slices.Clone(cuts), next))
				}
			}
		}
		for from := 0; from <= len(text) && p.Role != api.RoleReject; from++ {
			walk(from, from, nil)
		}
	}
	slices.SortFunc(out, compareAlts)
	return out
}

// someOf tells some of a list, about so many in a hundred.
func someOf[T any](die *rand.Rand, l []T, percent int) []T {
	var out []T
	for _, x := range l {
		if die.Intn(100) < percent {
			out = append(out, x)
		}
	}
	return out
}

// allForbids tells all that may be forbidden in a grammar.
func allForbids(g api.Grammar) []api.Forbid {
	var out []api.Forbid
	for parent, p := range g.Prods {
		for i, s := range p.Right {
			for child, q := range g.Prods {
				f := api.Forbid{Parent: parent, At: i + 1, Child: child}
				if s.Kind == api.SymSort && q.Left == s.Sort && p.Role != api.RoleReject && q.Role != api.RoleReject {
					out = append(out, f)
				}
			}
		}
	}
	return out
}

// randomGrammar tells a grammar that may be, of at most so many sorts, and productions, of so many symbols; most of its sorts have a short text; some things are forbidden.
func randomGrammar(die *rand.Rand, sorts, prods, symbols int) api.Grammar {
	g := api.Grammar{Sorts: []string{"S", "A", "B", "C", "D"}[:1+die.Intn(sorts)]}
	dense := 1 + die.Intn(5)
	add := func(left, symbols, dense int) {
		p := api.Prod{Left: left, From: -1, Prefer: die.Intn(9) == 0}
		if die.Intn(12) == 0 {
			p.Role = api.RoleReject
		}
		for range symbols {
			s := set(pick(die, "a", "a", "ab", "b", "\x00a\xff"))
			if die.Intn(5) < dense && p.Role != api.RoleReject {
				s = sort(die.Intn(len(g.Sorts)))
			}
			p.Right = append(p.Right, s)
		}
		g.Prods = append(g.Prods, p)
		if die.Intn(9) == 0 {
			g.Prods = append(g.Prods, p)
		}
	}
	for n := range g.Sorts {
		if die.Intn(5) > 0 {
			add(n, die.Intn(2), 0)
		}
	}
	for range 1 + die.Intn(prods) {
		add(die.Intn(len(g.Sorts)), 1+die.Intn(symbols), dense)
	}
	die.Shuffle(len(g.Prods), func(i, j int) { g.Prods[i], g.Prods[j] = g.Prods[j], g.Prods[i] })
	g.Forbid = someOf(die, allForbids(g), pick(die, 0, 0, 15, 40))
	return g
}

// P11.1 to P11.5: grammars of all that makes trees, with their parts left out one by one, short texts, and all their ways.
func TestPartsOfGrammars(t *testing.T) {
	die := rand.New(rand.NewSource(110))
	lines := []string{"S = S S", "S = [a]", "S = S", "S = A S", "S =", "A = S", "A = [a]"}
	trees, endless := 0, 0
	for chosen := range 1 << len(lines) {
		var l []string
		for i, line := range lines {
			if chosen>>i&1 == 1 {
				l = append(l, line)
			}
		}
		g := read("S A", l...)
		for i, text := range textsOf("a", 2) {
			for percent := range []int{0, 20, 50}[i:] {
				g.Forbid = someOf(die, allForbids(g), percent)
				n, more := checkModel(t, g, text, waysOf(t, g, text))
				trees, endless = trees+n, endless+more
			}
		}
	}
	if trees < 10000 || endless < 200 {
		t.Errorf("%d trees, %d nodes with endlessly many", trees, endless)
	}
}

// P11.1 to P11.5: random grammars, short texts, and lists of all kinds: all ways, all alternatives, some of them.
func TestAsModel(t *testing.T) {
	die := rand.New(rand.NewSource(111))
	lists, trees, endless := 0, 0, 0
	for i := range 2500 {
		g := randomGrammar(die, 1+i%3, 1+i%6, 1+i%4)
		text := pick(die, textsOf("ab", i%4)...)
		alts := allAlts(g, text)
		switch i % 3 {
		case 0:
			alts = waysOf(t, g, text)
		case 1:
			alts = someOf(die, alts, 60+die.Intn(40))
		}
		if len(alts) > 60 {
			alts = someOf(die, alts, 6000/len(alts))
		}
		if len(alts) > 2 {
			lists++
		}
		n, more := checkModel(t, g, text, alts)
		trees, endless = trees+n, endless+more
	}
	if lists < 1200 || trees < 20000 || endless < 500 {
		t.Errorf("%d lists, %d trees, %d nodes with endlessly many", lists, trees, endless)
	}
}
