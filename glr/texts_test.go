package glr_test

import (
	"math/rand"
	"slices"
	"strings"
	"testing"

	"rosetta/api"
	"rosetta/glr"
	"rosetta/kernel"
	"rosetta/sets"
)

// allTexts tells all texts of the Start up to a length, made one by one: those of each sort by those of others, till there are no more.
func allTexts(g api.Grammar, length int) map[string]bool {
	texts := make([]map[string]bool, len(g.Sorts))
	for n := range texts {
		texts[n] = map[string]bool{}
	}
	for more := true; more; {
		more = false
		for _, p := range g.Prods {
			if p.Role == api.RoleReject {
				continue
			}
			l := []string{""}
			for _, s := range p.Right {
				next := map[string]bool{}
				for _, text := range l {
					if s.Kind == api.SymSet {
						for b := range sets.Bytes(s.Set) {
							next[text+string([]byte{b})] = len(text) < length
						}
						continue
					}
					for part := range texts[s.Sort] {
						next[text+part] = len(text)+len(part) <= length
					}
				}
				l = nil
				for text, short := range next {
					if short {
						l = append(l, text)
					}
				}
			}
			for _, text := range l {
				if !texts[p.Left][text] {
					texts[p.Left][text], more = true, true
				}
			}
		}
	}
	return texts[g.Start]
}

// begins tells whether some text of the Start begins with some bytes: by where in these, or behind all of them, each sort's trees may end that begin at a place, a bit each.
func begins(g api.Grammar, text string) bool {
	end := len(text)
	ends := make([][]uint, len(g.Sorts))
	for n := range ends {
		ends[n] = make([]uint, end+1)
	}
	over := func(s api.Sym, place int) uint {
		switch {
		case s.Kind == api.SymSort:
			return ends[s.Sort][place]
		case place == end:
			return 1 << end
		case sets.Has(s.Set, text[place]):
			return 1 << (place + 1)
		}
		return 0
	}
	for more := true; more; {
		more = false
		for _, p := range g.Prods {
			for from := 0; from <= end && p.Role != api.RoleReject; from++ {
				at := uint(1) << from
				for _, s := range p.Right {
					var next uint
					for place := range end + 1 {
						if at>>place&1 == 1 {
							next |= over(s, place)
						}
					}
					at = next
				}
				if all := ends[p.Left][from] | at; all != ends[p.Left][from] {
					ends[p.Left][from], more = all, true
				}
			}
		}
	}
	return ends[g.Start][0]>>end&1 == 1
}

// wellFormed tells a random grammar that is well formed.
func wellFormed(die *rand.Rand, sorts, prods, symbols int) api.Grammar {
	for {
		g, e := kernel.Trim(randomGrammar(die, sorts, prods, symbols))
		if e == api.OK {
			return g
		}
	}
}

// ofTwoBytes tells a grammar with no bytes but a and b, so that there are few short texts.
func ofTwoBytes(g api.Grammar) api.Grammar {
	for i, p := range g.Prods {
		g.Prods[i].Right = slices.Clone(p.Right)
		for k, s := range p.Right {
			if few := sets.Meet(s.Set, sets.Of('a', 'b')); few != (api.Set{}) {
				g.Prods[i].Right[k].Set = few
			} else if s.Kind == api.SymSet {
				g.Prods[i].Right[k] = set("b")
			}
		}
	}
	return g
}

// P10.2, P10.4, P0.4: what Prefix tells is what the grammar's texts have there: those that are made one by one, and all.
func TestPrefix(t *testing.T) {
	die := rand.New(rand.NewSource(104))
	same, longer := 0, 0
	for i := range 600 {
		g := wellFormed(die, 1+i%3, 1+i%7, 1+i%4)
		if i%2 == 0 {
			g = ofTwoBytes(g)
		}
		for _, text := range append(textsOf("ab", 3), "\x00", "\xffa", "abca") {
			checkPrefix(t, g, text)
		}
		if i%2 > 0 {
			continue
		}
		texts := allTexts(g, 6)
		for _, text := range textsOf("ab", 3) {
			if made, begun, next := checkTexts(t, g, texts, text); made == next && begun {
				same++
			} else if next != (api.Set{}) {
				longer++
			}
		}
	}
	if same < 1000 || longer > same/4 {
		t.Errorf("as the short texts %d times, %d times more", same, longer)
	}
}

// checkPrefix asks that what may come behind a text is what some text of a well formed grammar has there.
func checkPrefix(t *testing.T, g api.Grammar, text string) {
	t.Helper()
	next, at, e := glr.Prefix(g, text, plenty)
	if e != api.OK || at != begins(g, text) {
		t.Fatalf("P10.2: %q: %v %v\n%s", text, at, e, kernel.Text(g))
	}
	for b := range sets.Bytes(sets.Union(next, sets.Of(0, 1, 'a', 'b', 'c', 'd', 254, 255))) {
		if sets.Has(next, b) != begins(g, text+string([]byte{b})) {
			t.Fatalf("P10.2, P10.4: %q: byte %d: %s\n%s", text, b, sets.Text(next), kernel.Text(g))
		}
	}
}

// checkTexts asks that what some texts have behind a beginning may come there, and tells what that is, whether there is such a text, and what Prefix tells.
func checkTexts(t *testing.T, g api.Grammar, texts map[string]bool, text string) (api.Set, bool, api.Set) {
	t.Helper()
	var made api.Set
	begun := false
	for whole := range texts {
		if strings.HasPrefix(whole, text) {
			begun = true
			if len(whole) > len(text) {
				made = sets.Union(made, sets.Of(whole[len(text)]))
			}
		}
	}
	next, at, e := glr.Prefix(g, text, plenty)
	if !sets.Within(made, next) || begun && !at || e != api.OK {
		t.Fatalf("P10.2: %q: %s %v %v, want at least %s %v\n%s", text, sets.Text(next), at, e, sets.Text(made), begun, kernel.Text(g))
	}
	return made, begun, next
}

// heights tells of each sort how flat its flattest trees are; 0 of one that has none.
func heights(g api.Grammar) []int {
	out := make([]int, len(g.Sorts))
	for height := 1; height <= len(g.Sorts); height++ {
		for _, p := range g.Prods {
			high := slices.ContainsFunc(p.Right, func(s api.Sym) bool {
				return s.Kind == api.SymSort && (out[s.Sort] == 0 || out[s.Sort] >= height)
			})
			if !high && out[p.Left] == 0 && p.Role != api.RoleReject {
				out[p.Left] = height
			}
		}
	}
	return out
}

// grown tells a tree of a sort that has some: of any production, while it may be deep, then of those that make it flat.
func grown(die *rand.Rand, g api.Grammar, flattest []int, sort, deep int) api.Tree {
	var l []int
	for n, p := range g.Prods {
		if p.Left != sort || p.Role == api.RoleReject {
			continue
		}
		may := !slices.ContainsFunc(p.Right, func(s api.Sym) bool {
			return s.Kind == api.SymSort && (flattest[s.Sort] == 0 || deep <= 0 && flattest[s.Sort] >= flattest[sort])
		})
		if may {
			l = append(l, n)
		}
	}
	t := api.Tree{Prod: pick(die, l...)}
	for _, s := range g.Prods[t.Prod].Right {
		if s.Kind == api.SymSort {
			t.Kids = append(t.Kids, grown(die, g, flattest, s.Sort, deep-1))
		} else {
			t.Kids = append(t.Kids, api.Tree{Prod: -1, Byte: pick(die, slices.Collect(sets.Bytes(s.Set))...)})
		}
	}
	return t
}

// P10.1, P10.2, P10.4: each part of a tree is an alternative, and its sort was told where it begins, each byte where it stands.
func TestTrees(t *testing.T) {
	die := rand.New(rand.NewSource(105))
	parts, long := 0, 0
	for i := range 2500 {
		g := wellFormed(die, 1+i%4, 2+i%8, 1+i%4)
		tree := grown(die, g, heights(g), g.Start, 2+die.Intn(5))
		text, _ := kernel.Yield(tree)
		if len(text) > 12 {
			continue
		}
		if len(text) > 3 {
			long++
		}
		w := ran(t, g, text)
		alts := altTexts(g, w.Alts)
		if w.Far != len(text) {
			t.Fatalf("P10.4: %q: Far %d\n%s", text, w.Far, kernel.Text(g))
		}
		var walk func(tree api.Tree, from int) int
		walk = func(tree api.Tree, from int) int {
			p := g.Prods[tree.Prod]
			a := api.Alt{Sort: p.Left, From: from, Until: from, Prod: tree.Prod}
			for i, kid := range tree.Kids {
				next, _, _ := glr.Prefix(g, text[:a.Until], plenty)
				sorts, _ := glr.Sorts(g, text[:a.Until], plenty)
				if kid.Prod < 0 {
					if !sets.Has(next, kid.Byte) {
						t.Fatalf("P10.4: %q: %d does not come at %d\n%s", text, kid.Byte, a.Until, kernel.Text(g))
					}
					a.Until++
				} else {
					if !slices.Contains(sorts, p.Right[i].Sort) {
						t.Fatalf("P10.4: %q: %v at %d\n%s", text, sorts, a.Until, kernel.Text(g))
					}
					a.Until = walk(kid, a.Until)
				}
				a.Cuts = append(a.Cuts, a.Until)
			}
			if parts++; !slices.Contains(alts, altText(g, a)) {
				t.Fatalf("P10.4: %q: no %s\n%s", text, altText(g, a), kernel.Text(g))
			}
			return a.Until
		}
		walk(tree, 0)
	}
	if parts < 3000 || long < 200 {
		t.Errorf("only %d parts, %d long texts", parts, long)
	}
}

// P10.2, P10.4: what may come behind each beginning of a text of a grammar whose texts can all be made.
func TestPrefixOfAFinishedGrammar(t *testing.T) {
	g := read("S A B", "S = A [+] B", "S = B A", "A = [a]", "A = [ab] [c]", "A =", "B = A A", "B = [x]", "B = [y] : reject", "follow A [a]", "forbid 0 1 2")
	texts := allTexts(g, 100)
	for _, text := range textsOf("abcxy+z", 4) {
		made, begun, next := checkTexts(t, g, texts, text)
		if _, at, _ := glr.Prefix(g, text, plenty); made != next || at != begun {
			t.Errorf("P10.2: %q: %s %v, want %s %v", text, sets.Text(next), at, sets.Text(made), begun)
		}
	}
}
