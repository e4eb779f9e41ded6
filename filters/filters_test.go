package filters_test

import (
	"cmp"
	"fmt"
	"math"
	"slices"
	"strconv"
	"strings"
	"testing"

	"rosetta/api"
	"rosetta/filters"
	"rosetta/forest"
	"rosetta/glr"
	"rosetta/kernel"
	"rosetta/sets"
)

// The calls' signatures, as the chapter lists them.
var (
	_ func(api.Grammar, string, []api.Alt) ([]api.Alt, api.Errno)  = filters.Filter
	_ func(api.Grammar, string, []api.Alt) ([]api.Gone, api.Errno) = filters.Why
	_ func(api.Grammar, int, string) (bool, api.Errno)             = filters.Rejected
	_ func(api.Grammar, int, string, int) (bool, api.Errno)        = filters.Followed
)

func sort(n int) api.Sym { return api.Sym{Kind: api.SymSort, Sort: n} }

func set(bytes string) api.Sym { return api.Sym{Set: sets.Of([]byte(bytes)...)} }

func readSet(text string) api.Set {
	s, e := sets.Read(text)
	if e != api.OK {
		panic(text)
	}
	return s
}

// read tells the grammar of these lines: sorts by name, the first one the Start; each line a production as layer 6's Text tells it, with reject, prefer or avoid behind a colon; or "forbid" and three numbers; or "follow", a sort and a set.
func read(sorts string, lines ...string) api.Grammar {
	g := api.Grammar{Sorts: strings.Fields(sorts)}
	for _, line := range lines {
		words := strings.Fields(line)
		switch words[0] {
		case "forbid":
			l := numbers(words[1:])
			g.Forbid = append(g.Forbid, api.Forbid{Parent: l[0], At: l[1], Child: l[2]})
		case "follow":
			g.Follow = append(g.Follow, api.Follow{Sort: slices.Index(g.Sorts, words[1]), Not: readSet(words[2])})
		default:
			g.Prods = append(g.Prods, readProd(g, words))
		}
	}
	if kernel.Check(g) != api.OK {
		panic(strings.Join(lines, "\n"))
	}
	return g
}

// numbers tells the numbers that words tell.
func numbers(words []string) []int {
	var out []int
	for _, w := range words {
		n, e := strconv.Atoi(w)
		if e != nil {
			panic(e)
		}
		out = append(out, n)
	}
	return out
}

// readProd tells the production that words tell.
func readProd(g api.Grammar, words []string) api.Prod {
	p := api.Prod{Left: slices.Index(g.Sorts, words[0]), From: -1}
	for _, w := range words[2:] {
		switch w {
		case ":":
		case "reject":
			p.Role = api.RoleReject
		case "prefer":
			p.Prefer = true
		case "avoid":
			p.Avoid = true
		default:
			if w[0] == '[' {
				p.Right = append(p.Right, api.Sym{Set: readSet(w)})
			} else {
				p.Right = append(p.Right, sort(slices.Index(g.Sorts, w)))
			}
		}
	}
	return p
}

// list tells alternatives, each told as its Prod, a colon, its From and its Cuts: "0: 0 1 2".
func list(g api.Grammar, lines ...string) []api.Alt {
	var out []api.Alt
	for _, line := range lines {
		prod, rest, _ := strings.Cut(line, ":")
		a := api.Alt{Prod: numbers([]string{prod})[0]}
		places := numbers(strings.Fields(rest))
		a.From, a.Until, a.Cuts = places[0], places[len(places)-1], places[1:]
		a.Sort = g.Prods[a.Prod].Left
		out = append(out, a)
	}
	return out
}

// altTexts tells alternatives as list reads them.
func altTexts(alts []api.Alt) []string {
	var out []string
	for _, a := range alts {
		out = append(out, strings.TrimSpace(fmt.Sprint(a.Prod, ": ", a.From, " ", strings.Trim(fmt.Sprint(a.Cuts), "[]"))))
	}
	return out
}

func compareAlts(a, b api.Alt) int {
	return cmp.Or(cmp.Compare(a.Sort, b.Sort), cmp.Compare(a.From, b.From), cmp.Compare(a.Until, b.Until), cmp.Compare(a.Prod, b.Prod), slices.Compare(a.Cuts, b.Cuts))
}

// waysOf tells the list of all ways through a text.
func waysOf(t *testing.T, g api.Grammar, text string) []api.Alt {
	t.Helper()
	w, e := glr.Run(g, text, math.MaxInt)
	if e != api.OK {
		t.Fatal(e)
	}
	return w.Alts
}

// letters tells why alternatives went: a dot of one that did not, else the step's letter.
func letters(why []api.Gone) string {
	out := ""
	for _, w := range why {
		out += ".rfdpa"[w : w+1]
	}
	return out
}

// check asks why alternatives go, a letter each, and that all calls agree, with the model too.
func check(t *testing.T, what string, g api.Grammar, text string, alts []api.Alt, want string) {
	t.Helper()
	why, e := filters.Why(g, text, alts)
	if e != api.OK || letters(why) != want {
		t.Errorf("P12.1: %s: Why: %s %v, want %s", what, letters(why), e, want)
	}
	checkModel(t, g, text, alts)
}

// checkWays asks the same of a text's list of all ways, which is told first, as list reads it.
func checkWays(t *testing.T, what string, g api.Grammar, text, ways, want string) {
	t.Helper()
	alts := waysOf(t, g, text)
	if l := strings.Join(altTexts(alts), ", "); l != ways {
		t.Fatalf("%s: the ways are %s", what, l)
	}
	check(t, what, g, text, alts, want)
}

// treesLeft tells how many trees a text has: of the Start over the whole, over what is left of all its ways.
func treesLeft(t *testing.T, g api.Grammar, text string) int {
	t.Helper()
	left, e := filters.Filter(g, text, waysOf(t, g, text))
	if e != api.OK {
		t.Fatalf("P12.1: %v", e)
	}
	n, e := forest.Count(g, left, g.Start, 0, len(text))
	if e != api.OK {
		t.Fatalf("P12.1: what is left is no list: %v", e)
	}
	return n
}

// The chapter's own examples.
func TestExamples(t *testing.T) {
	g := read("E N", "E = E [+] E", "E = N", "N = [0-9]")
	if n := treesLeft(t, g, "1+1+1"); n != 2 {
		t.Errorf("P12.1: 1+1+1 without left: %d", n)
	}
	g.Forbid = []api.Forbid{{Parent: 0, At: 3, Child: 0}}
	if n := treesLeft(t, g, "1+1+1"); n != 1 {
		t.Errorf("P12.1: 1+1+1: %d", n)
	}
	g = read("Id Many", "Id = Many", "Many = [a-z]", "Many = Many [a-z]", "Id = [i] [f] : reject")
	for text, want := range map[string]int{"if": 0, "iff": 1, "i": 1, "fi": 1, "": 0} {
		if n := treesLeft(t, g, text); n != want {
			t.Errorf("P12.1: %q as an Id: %d trees", text, n)
		}
	}
	checkWays(t, "if", g, "if", "0: 0 1, 0: 0 2, 1: 0 1, 2: 0 1 2", ".r..")
	checkWays(t, "iff", g, "iff", "0: 0 1, 0: 0 2, 0: 0 3, 1: 0 1, 2: 0 1 2, 2: 0 2 3", ".r....")
	g.Follow = []api.Follow{{Sort: 0, Not: readSet("[a-z]")}}
	checkWays(t, "if, as long as can be", g, "if", "0: 0 1, 0: 0 2, 1: 0 1, 2: 0 1 2", "fr..")
}

// The empty list, the empty text, a grammar that has nothing that goes by it.
func TestNothing(t *testing.T) {
	g := read("S A", "S = A", "A = [a]", "S =", "S = A A", "S = S")
	check(t, "the empty list", g, "a", nil, "")
	check(t, "the empty list, not nil", g, "a", []api.Alt{}, "")
	check(t, "the empty list of the empty text", g, "", nil, "")
	check(t, "no productions", read("S"), "", nil, "")
	check(t, "the empty text", g, "", list(g, "2: 0"), ".")
	checkWays(t, "the empty text, a circle", g, "", "2: 0, 4: 0 0", "..")
	checkWays(t, "a", g, "a", "2: 0, 4: 0 0, 0: 0 1, 4: 0 1, 1: 0 1", ".....")
	check(t, "no kid", g, "a", list(g, "0: 0 1"), "d")
	check(t, "no kid, in a circle", g, "a", list(g, "0: 0 1", "4: 0 1"), "dd")
	check(t, "one kid of two", g, "aa", list(g, "3: 0 1 2", "1: 0 1"), "d.")
	check(t, "both kids", g, "aa", list(g, "3: 0 1 2", "1: 0 1", "1: 1 2"), "...")
}

// checkRefused asks that Filter and Why refuse a list, and tell nothing beside.
func checkRefused(t *testing.T, what string, g api.Grammar, text string, alts []api.Alt, want api.Errno) {
	t.Helper()
	if left, e := filters.Filter(g, text, alts); e != want || left != nil {
		t.Errorf("P12.1: %s: Filter: %v %v, want %v", what, altTexts(left), e, want)
	}
	if why, e := filters.Why(g, text, alts); e != want || why != nil {
		t.Errorf("P12.1: %s: Why: %v %v, want %v", what, why, e, want)
	}
	if e := forest.Check(g, text, alts); e != want {
		t.Errorf("P12.1: %s: layer 11 tells %v, not %v", what, e, want)
	}
}

// refused are grammars that may not be, each for one reason.
func refused() map[string]api.Grammar {
	out := map[string]api.Grammar{"nothing": {}}
	bend := func(what string, f func(g *api.Grammar)) {
		g := read("S A", "S = A", "A = [a]", "A = [b] : prefer", "A = [c] : avoid", "A = [b] : reject", "follow A [a]", "forbid 0 1 2")
		f(&g)
		if kernel.Check(g) != api.ErrGrammar {
			panic(what)
		}
		out[what] = g
	}
	bend("two sorts of one name", func(g *api.Grammar) { g.Sorts[1] = "S" })
	bend("a Start past the last sort", func(g *api.Grammar) { g.Start = 2 })
	bend("a Left past the last sort", func(g *api.Grammar) { g.Prods[3].Left = 2 })
	bend("Prefer and Avoid at one production", func(g *api.Grammar) { g.Prods[2].Avoid = true })
	bend("Avoid and Prefer at one production", func(g *api.Grammar) { g.Prods[3].Prefer = true })
	bend("two Follows of one sort", func(g *api.Grammar) {
		g.Follow = append(g.Follow, api.Follow{Sort: 1, Not: sets.Of('b')})
	})
	bend("a Follow of a sort that is not there", func(g *api.Grammar) { g.Follow[0].Sort = 2 })
	bend("a Follow of no byte", func(g *api.Grammar) { g.Follow[0].Not = api.Set{} })
	bend("a sort in what is rejected", func(g *api.Grammar) { g.Prods[4].Right[0] = sort(1) })
	bend("a Forbid of what is rejected", func(g *api.Grammar) { g.Forbid[0].Child = 4 })
	bend("a Forbid that stands twice", func(g *api.Grammar) { g.Forbid = append(g.Forbid, g.Forbid[0]) })
	return out
}

// Layer 11's errors of the list, each alone, and with each other.
func TestRefused(t *testing.T) {
	g := read("S A", "S = A [b]", "A = [a]", "A =", "A = [a] : reject", "follow A [ab]")
	good := list(g, "0: 0 1 2", "1: 0 1")
	check(t, "a list", g, "ab", good, "dr")
	bent := func(f func(l []api.Alt)) []api.Alt {
		l := list(g, altTexts(good)...)
		f(l)
		return l
	}
	for what, l := range map[string][]api.Alt{
		"not in order":                  list(g, "1: 0 1", "0: 0 1 2"),
		"twice":                         list(g, "0: 0 1 2", "1: 0 1", "1: 0 1"),
		"another Sort":                  bent(func(l []api.Alt) { l[0].Sort = 1 }),
		"a Prod below 0":                bent(func(l []api.Alt) { l[0].Prod = -1 }),
		"a Prod past the last":          bent(func(l []api.Alt) { l[1].Prod = 4 }),
		"a Prod of RoleReject":          bent(func(l []api.Alt) { l[1].Prod = 3 }),
		"a Cut too few":                 bent(func(l []api.Alt) { l[1].Cuts = nil }),
		"a Cut too many":                bent(func(l []api.Alt) { l[1].Cuts = []int{1, 1} }),
		"falling Cuts":                  bent(func(l []api.Alt) { l[0].Cuts = []int{3, 2} }),
		"the last Cut not Until":        bent(func(l []api.Alt) { l[0].Until = 3 }),
		"a From below 0":                bent(func(l []api.Alt) { l[0].From = -1 }),
		"an Until below the From":       bent(func(l []api.Alt) { l[1].Until = -1 }),
		"a set over no byte":            bent(func(l []api.Alt) { l[0].Cuts = []int{2, 2} }),
		"a set over two bytes":          bent(func(l []api.Alt) { l[0].Cuts = []int{0, 2} }),
		"a byte that is not in the set": list(g, "1: 1 2"),
		"past the text's end":           list(g, "2: 3"),
		"huge":                          bent(func(l []api.Alt) { l[0].Cuts, l[0].Until = []int{1, math.MaxInt}, math.MaxInt }),
		"no symbols over a byte":        bent(func(l []api.Alt) { l[1].Prod, l[1].Cuts = 2, nil }),
	} {
		checkRefused(t, what, g, "ab", l, api.ErrForest)
	}
	checkRefused(t, "another text", g, "b", good, api.ErrForest)
	checkRefused(t, "no text", g, "", good, api.ErrForest)
	check(t, "a longer text", g, "abc", good, "dr")
	for what, g := range refused() {
		checkRefused(t, what, g, "a", nil, api.ErrGrammar)
		checkRefused(t, what+", and no list", g, "a", []api.Alt{{Prod: -1}}, api.ErrGrammar)
		checkRefused(t, what+", and another text", g, "", []api.Alt{{Sort: 1, Until: 1, Prod: 1, Cuts: []int{1}}}, api.ErrGrammar)
	}
}
