package forest_test

import (
	"fmt"
	"math"
	"reflect"
	"slices"
	"strconv"
	"strings"
	"testing"

	"rosetta/api"
	"rosetta/forest"
	"rosetta/kernel"
	"rosetta/sets"
)

// The calls' signatures, as the chapter lists them.
var (
	_ func(api.Grammar, string, []api.Alt) api.Errno                                   = forest.Check
	_ func(api.Grammar, []api.Alt) ([]bool, api.Errno)                                 = forest.Alive
	_ func(api.Grammar, []api.Alt, int, int, int) (int, api.Errno)                     = forest.Count
	_ func(api.Grammar, string, []api.Alt, int, int, int, int) ([]api.Tree, api.Errno) = forest.Trees
	_ func(api.Grammar, []api.Alt, int, int, int) (bool, api.Errno)                    = forest.Cyclic
	_ func(api.Grammar, []api.Alt, int, int, int) ([]api.Alt, api.Errno)               = forest.Prune
)

// brief tells a value, cut short.
func brief(v any) string {
	s := fmt.Sprintf("%+v", v)
	return s[:min(len(s), 1500)]
}

func sort(n int) api.Sym { return api.Sym{Kind: api.SymSort, Sort: n} }

func set(bytes string) api.Sym { return api.Sym{Set: sets.Of([]byte(bytes)...)} }

func readSet(text string) api.Set {
	s, e := sets.Read(text)
	if e != api.OK {
		panic(text)
	}
	return s
}

// read tells the grammar of these lines: sorts by name, the first one the Start; each line a production as layer 6's Text tells it, with reject, prefer or avoid behind a colon; or "forbid" and three numbers; or "follow", a sort and a set; or "start" and a sort.
func read(sorts string, lines ...string) api.Grammar {
	g := api.Grammar{Sorts: strings.Fields(sorts)}
	for _, line := range lines {
		words := strings.Fields(line)
		switch words[0] {
		case "forbid":
			l := numbers(words[1:])
			g.Forbid = append(g.Forbid, api.Forbid{Parent: l[0], At: l[1], Child: l[2]})
		case "follow":
			g.Follow = append(g.Follow, api.Follow{Sort: slices.Index(g.Sorts, words[1]), Not: readSet(words[2])})
		case "start":
			g.Start = slices.Index(g.Sorts, words[1])
		default:
			g.Prods = append(g.Prods, readProd(g, words))
		}
	}
	if kernel.Check(g) != api.OK {
		panic(brief(lines))
	}
	return g
}

// numbers tells the numbers that words tell.
func numbers(words []string) []int {
	var out []int
	for _, w := range words {
		n, e := strconv.Atoi(w)
		if e != nil {
			panic(e)
		}
		out = append(out, n)
	}
	return out
}

// readProd tells the production that words tell.
func readProd(g api.Grammar, words []string) api.Prod {
	p := api.Prod{Left: slices.Index(g.Sorts, words[0]), From: -1}
	for _, w := range words[2:] {
		switch w {
		case ":":
		case "reject":
			p.Role = api.RoleReject
		case "prefer":
			p.Prefer = true
		case "avoid":
			p.Avoid = true
		default:
			if w[0] == '[' {
				p.Right = append(p.Right, api.Sym{Set: readSet(w)})
			} else {
				p.Right = append(p.Right, sort(slices.Index(g.Sorts, w)))
			}
		}
	}
	return p
}

// list tells alternatives, each told as its Prod, a colon, its From and its Cuts: "0: 0 1 2".
func list(g api.Grammar, lines ...string) []api.Alt {
	var out []api.Alt
	for _, line := range lines {
		prod, rest, _ := strings.Cut(line, ":")
		a := api.Alt{Prod: numbers([]string{prod})[0]}
		places := numbers(strings.Fields(rest))
		a.From, a.Until, a.Cuts = places[0], places[len(places)-1], places[1:]
		a.Sort = g.Prods[a.Prod].Left
		out = append(out, a)
	}
	return out
}

// altTexts tells alternatives as list reads them.
func altTexts(alts []api.Alt) []string {
	var out []string
	for _, a := range alts {
		out = append(out, strings.TrimSpace(fmt.Sprint(a.Prod, ": ", a.From, " ", strings.Trim(fmt.Sprint(a.Cuts), "[]"))))
	}
	return out
}

// treeText tells a tree: its production's number and its kids in brackets, a byte as it is written in a set.
func treeText(t api.Tree) string {
	if t.Prod < 0 {
		return strings.Trim(sets.Text(sets.Of(t.Byte)), "[]")
	}
	var kids []string
	for _, k := range t.Kids {
		kids = append(kids, treeText(k))
	}
	return fmt.Sprint(t.Prod, "(", strings.Join(kids, " "), ")")
}

func treeTexts(trees []api.Tree) []string {
	var out []string
	for _, t := range trees {
		out = append(out, treeText(t))
	}
	return out
}

// root is a node.
type root struct{ sort, from, until int }

// told is what all calls tell of a node.
type told struct {
	count  int
	cyclic bool
	trees  []api.Tree
	pruned []api.Alt
}

// ask asks all calls of a node.
func ask(t *testing.T, g api.Grammar, text string, alts []api.Alt, n root, most int) told {
	t.Helper()
	var out told
	var e [4]api.Errno
	out.count, e[0] = forest.Count(g, alts, n.sort, n.from, n.until)
	out.cyclic, e[1] = forest.Cyclic(g, alts, n.sort, n.from, n.until)
	out.trees, e[2] = forest.Trees(g, text, alts, n.sort, n.from, n.until, most)
	out.pruned, e[3] = forest.Prune(g, alts, n.sort, n.from, n.until)
	if e != [4]api.Errno{} {
		t.Fatalf("P11.2 to P11.4: %v of %v", e, n)
	}
	return out
}

// checkNode asks what there is of a node: its Count, "endless" if it is that, the alternatives that Prune leaves, and the first trees.
func checkNode(t *testing.T, what string, g api.Grammar, text string, alts []api.Alt, n root, count, pruned string, trees ...string) {
	t.Helper()
	got := ask(t, g, text, alts, n, len(trees))
	gotCount := strconv.Itoa(got.count)
	if got.cyclic {
		gotCount += " endless"
	}
	if gotCount != count {
		t.Errorf("P11.2: %s: Count and Cyclic: %s, want %s", what, gotCount, count)
	}
	if l := treeTexts(got.trees); !slices.Equal(l, trees) {
		t.Errorf("P11.3: %s: Trees:\n%s\nwant\n%s", what, strings.Join(l, "\n"), strings.Join(trees, "\n"))
	}
	if l := strings.Join(altTexts(got.pruned), ", "); l != pruned {
		t.Errorf("P11.4: %s: Prune:\n%s\nwant\n%s", what, l, pruned)
	}
	checkModel(t, g, text, alts)
}

// checkAlive asks which alternatives are alive: a byte each, x of those that are.
func checkAlive(t *testing.T, what string, g api.Grammar, alts []api.Alt, want string) {
	t.Helper()
	alive, e := forest.Alive(g, alts)
	got := ""
	for _, is := range alive {
		got += map[bool]string{true: "x", false: "."}[is]
	}
	if got != want || e != api.OK {
		t.Errorf("P11.1: %s: Alive: %s %v, want %s", what, got, e, want)
	}
}

// The chapter's own examples.
func TestExamples(t *testing.T) {
	g := read("S", "S = S S", "S = [a]", "S = S")
	without := list(g, "1: 0 1", "0: 0 1 2", "1: 1 2")
	with := list(g, "1: 0 1", "2: 0 1", "0: 0 1 2", "2: 0 2", "1: 1 2", "2: 1 2")
	if e := forest.Check(g, "aa", with); e != api.OK {
		t.Errorf("P11.1: %v", e)
	}
	checkNode(t, "without S = S", g, "aa", without, root{0, 0, 2}, "1", "1: 0 1, 0: 0 1 2, 1: 1 2", "0(1(a) 1(a))")
	if trees, _ := forest.Trees(g, "aa", without, 0, 0, 2, 1000); len(trees) != 1 {
		t.Errorf("P11.3: %v", treeTexts(trees))
	}
	checkNode(t, "with it", g, "aa", with, root{0, 0, 2}, "2 endless", "1: 0 1, 2: 0 1, 0: 0 1 2, 2: 0 2, 1: 1 2, 2: 1 2",
		"0(1(a) 1(a))", "0(1(a) 2(1(a)))", "0(2(1(a)) 1(a))", "2(0(1(a) 1(a)))")
	g.Forbid = []api.Forbid{{Parent: 0, At: 1, Child: 1}}
	checkNode(t, "with Forbid", g, "aa", without, root{0, 0, 2}, "0", "")
	checkAlive(t, "with Forbid", g, without, "x.x")
}

// What is made of what: sets, sorts, several of both, productions without symbols.
func TestOrdinary(t *testing.T) {
	g := read("S A B", "S = A [+] B", "A = [a]", "A = [ab] [ab]", "B = A", "B =", "B = A : avoid", "S = [^] [\\x00] [\\xff]")
	alts := list(g, "0: 0 1 2 2", "0: 0 1 2 4", "1: 0 1", "2: 2 3 4", "4: 2", "3: 2 4", "5: 2 4")
	slices.SortFunc(alts, compareAlts)
	checkAlive(t, "a+ab", g, alts, "xxxxxxx")
	checkNode(t, "a+ab", g, "a+ab", alts, root{0, 0, 4}, "2", "0: 0 1 2 4, 1: 0 1, 2: 2 3 4, 3: 2 4, 5: 2 4",
		"0(1(a) + 3(2(a b)))", "0(1(a) + 5(2(a b)))")
	checkNode(t, "a+", g, "a+ab", alts, root{0, 0, 2}, "1", "0: 0 1 2 2, 1: 0 1, 4: 2", "0(1(a) + 4())")
	checkNode(t, "the first a", g, "a+ab", alts, root{1, 0, 1}, "1", "1: 0 1", "1(a)")
	checkNode(t, "nothing, at 2", g, "a+ab", alts, root{2, 2, 2}, "1", "4: 2", "4()")
	checkNode(t, "bytes 0 and 255", g, "\xff\x00\xff", list(g, "6: 0 1 2 3"), root{0, 0, 3}, "1", "6: 0 1 2 3", `6(\xff \x00 \xff)`)
}

// The empty list, the empty text, a grammar without productions; nodes that are not there, or can't be.
func TestNothing(t *testing.T) {
	g := read("S A", "S = A", "A = [a]", "S =")
	alts := list(g, "0: 0 1", "1: 0 1")
	edges := []int{math.MinInt, -1 << 32, -1, 0, 1, 2, 1 << 32, math.MaxInt}
	for _, s := range edges {
		for _, from := range edges {
			for _, until := range edges {
				n := root{s, from, until}
				if n != (root{0, 0, 1}) && n != (root{1, 0, 1}) {
					checkNode(t, fmt.Sprint("no node ", n), g, "a", alts, n, "0", "")
				}
				checkNode(t, "the empty list", g, "a", nil, n, "0", "")
				checkNode(t, "no productions", read("S"), "", []api.Alt{}, n, "0", "")
			}
		}
	}
	for _, n := range []root{{3, 0, 1}, {-3, 0, 1}, {1, -7, 1}, {0, 1, 0}} {
		if got := ask(t, g, "a", alts, n, 1000); !reflect.DeepEqual(got, told{}) {
			t.Errorf("P11.2 to P11.4: %v: %+v", n, got)
		}
	}
	empty := list(g, "2: 0")
	checkAlive(t, "the empty text", g, empty, "x")
	checkNode(t, "the empty text", g, "", empty, root{0, 0, 0}, "1", "2: 0", "2()")
	checkAlive(t, "the empty list", g, nil, "")
	for _, most := range []int{0, 1, api.MaxTrees} {
		trees, e := forest.Trees(g, "a", alts, 0, 0, 1, most)
		if len(trees) != min(most, 1) || e != api.OK {
			t.Errorf("P11.3: most of %d: %v %v", most, treeTexts(trees), e)
		}
		trees, e = forest.Trees(g, "", nil, 0, 0, 0, most)
		if len(trees) != 0 || e != api.OK {
			t.Errorf("P11.3: the empty list, most of %d: %v %v", most, treeTexts(trees), e)
		}
	}
}

// checkRefused asks that all calls refuse: those without a text by one error, Check and Trees by another one; and that they tell nothing beside.
func checkRefused(t *testing.T, what string, g api.Grammar, text string, alts []api.Alt, most int, without, with api.Errno) {
	t.Helper()
	if with != api.ErrArg {
		if e := forest.Check(g, text, alts); e != with {
			t.Errorf("P11.1: %s: Check: %v, want %v", what, e, with)
		}
	}
	if trees, e := forest.Trees(g, text, alts, 0, 0, 1, most); e != with || with != api.OK && trees != nil {
		t.Errorf("P11.3: %s: Trees: %v %v, want %v", what, treeTexts(trees), e, with)
	}
	alive, e := forest.Alive(g, alts)
	if e != without || without != api.OK && alive != nil {
		t.Errorf("P11.1: %s: Alive: %v %v, want %v", what, alive, e, without)
	}
	count, e := forest.Count(g, alts, 0, 0, 1)
	if e != without || without != api.OK && count != 0 {
		t.Errorf("P11.2: %s: Count: %v %v, want %v", what, count, e, without)
	}
	cyclic, e := forest.Cyclic(g, alts, 0, 0, 1)
	if e != without || without != api.OK && cyclic {
		t.Errorf("P11.2: %s: Cyclic: %v %v, want %v", what, cyclic, e, without)
	}
	pruned, e := forest.Prune(g, alts, 0, 0, 1)
	if e != without || without != api.OK && pruned != nil {
		t.Errorf("P11.4: %s: Prune: %v %v, want %v", what, pruned, e, without)
	}
}

// refused are grammars that may not be, each for one reason.
func refused() map[string]api.Grammar {
	out := map[string]api.Grammar{"nothing": {}, "no sort": {Prods: full().Prods}}
	bend := func(what string, f func(g *api.Grammar)) {
		g := full()
		f(&g)
		if kernel.Check(g) != api.ErrGrammar {
			panic(what)
		}
		out[what] = g
	}
	bend("two sorts of one name", func(g *api.Grammar) { g.Sorts[2] = "S" })
	bend("a Start past the last sort", func(g *api.Grammar) { g.Start = 3 })
	bend("a Left past the last sort", func(g *api.Grammar) { g.Prods[4].Left = 3 })
	bend("a symbol's sort below 0", func(g *api.Grammar) { g.Prods[0].Right[1].Sort = -1 })
	bend("a symbol of no kind", func(g *api.Grammar) { g.Prods[0].Right[0].Kind = 2 })
	bend("an empty set", func(g *api.Grammar) { g.Prods[2].Right[0].Set = api.Set{} })
	bend("Prefer and Avoid", func(g *api.Grammar) { g.Prods[2].Prefer, g.Prods[2].Avoid = true, true })
	bend("a Follow of nothing", func(g *api.Grammar) { g.Follow = []api.Follow{{}} })
	bend("a Forbid of nothing", func(g *api.Grammar) { g.Forbid = []api.Forbid{{}} })
	bend("a Forbid that stands twice", func(g *api.Grammar) { g.Forbid = append(g.Forbid, g.Forbid[0]) })
	bend("31 symbols", func(g *api.Grammar) { g.Prods[4].Right = slices.Repeat([]api.Sym{sort(1)}, api.MaxRight+1) })
	bend("1001 productions", func(g *api.Grammar) { g.Prods = slices.Repeat(g.Prods[2:3], api.MaxProds+1) })
	return out
}

// full is a grammar with something of all.
func full() api.Grammar {
	return read("S A B", "S = A B [x]", "S = S S : prefer", "A = [a]", "A = [ab] : avoid", "B =", "B = A A", "S = [x]", "A = [b] : reject", "B = S", "S = B", "A = A",
		"forbid 0 2 5", "forbid 1 1 1", "forbid 10 1 3", "follow A [a]", "follow S [^x]")
}

// bent is a list that is bent, and by which error calls without a text refuse it, and those with one.
type bent struct {
	what          string
	without, with api.Errno
	alts          []api.Alt
}

// bends tells lists of full and the text abx, each with one thing that may not be, or may just be.
func bends() []bent {
	g := full()
	good := list(g, "6: 2 3", "1: 0 1 2", "0: 0 1 2 3", "2: 0 1", "3: 0 1", "4: 0", "4: 3", "5: 0 1 2")
	slices.SortFunc(good, compareAlts)
	const no = api.ErrForest
	out := []bent{{"as it is", api.OK, api.OK, good}}
	alone := func(what string, without, with api.Errno, f func(a *api.Alt), line string) {
		a := list(g, line)
		f(&a[0])
		out = append(out, bent{what, without, with, a})
	}
	together := func(what string, without, with api.Errno, lines ...string) {
		out = append(out, bent{what, without, with, list(g, lines...)})
	}
	alone("one alone", api.OK, api.OK, func(*api.Alt) {}, "0: 0 1 2 3")
	alone("a Prod below 0", no, no, func(a *api.Alt) { a.Prod = -1 }, "2: 0 1")
	alone("the least Prod", no, no, func(a *api.Alt) { a.Prod = math.MinInt }, "2: 0 1")
	alone("the last Prod", api.OK, api.OK, func(*api.Alt) {}, "10: 0 1")
	alone("a Prod past the last one", no, no, func(a *api.Alt) { a.Prod = 11 }, "10: 0 1")
	alone("the greatest Prod", no, no, func(a *api.Alt) { a.Prod = math.MaxInt }, "10: 0 1")
	alone("a Prod of RoleReject", no, no, func(*api.Alt) {}, "7: 1 2")
	alone("another sort", no, no, func(a *api.Alt) { a.Sort = 2 }, "2: 0 1")
	alone("no sort", no, no, func(a *api.Alt) { a.Sort = -1 }, "2: 0 1")
	alone("one Cut too few", no, no, func(a *api.Alt) { a.Cuts = a.Cuts[:2] }, "0: 0 1 3 3")
	alone("one Cut too few, the first", no, no, func(a *api.Alt) { a.Cuts = a.Cuts[1:] }, "5: 0 1 2")
	alone("no Cuts", no, no, func(a *api.Alt) { a.Cuts = nil }, "5: 0 1 2")
	alone("no Cuts over nothing", no, no, func(a *api.Alt) { a.Cuts = nil }, "5: 1 1 1")
	alone("one Cut too many", no, no, func(a *api.Alt) { a.Cuts = append(a.Cuts, 3) }, "0: 0 1 2 3")
	alone("a Cut of a production without symbols", no, no, func(a *api.Alt) { a.Cuts = []int{1} }, "4: 1")
	alone("falling Cuts", no, no, func(*api.Alt) {}, "5: 0 2 1")
	alone("Cuts that fall and rise", no, no, func(a *api.Alt) { a.Cuts[0], a.Cuts[1] = 2, 1 }, "0: 0 1 2 2")
	alone("Cuts that stay", api.OK, api.OK, func(*api.Alt) {}, "5: 1 1 1")
	alone("a Cut below From", no, no, func(a *api.Alt) { a.From = 1 }, "5: 0 0 2")
	alone("a Cut below 0", no, no, func(a *api.Alt) { a.Cuts[0] = -1 }, "5: 0 0 2")
	alone("a Cut above Until", no, no, func(a *api.Alt) { a.Cuts[0] = 3 }, "5: 0 0 2")
	alone("all Cuts above Until", no, no, func(a *api.Alt) { a.Until = 1 }, "5: 0 2 2")
	alone("a huge Cut", no, no, func(a *api.Alt) { a.Cuts[0] = math.MaxInt }, "0: 0 1 2 3")
	alone("the last Cut ahead of Until", no, no, func(a *api.Alt) { a.Until = 3 }, "5: 0 1 2")
	alone("Until behind the last Cut", no, no, func(a *api.Alt) { a.Until = 1 }, "5: 0 1 2")
	alone("Until ahead of From", no, no, func(a *api.Alt) { a.Until = 0 }, "5: 1 1 1")
	alone("without symbols, Until behind From", no, no, func(a *api.Alt) { a.Until = 2 }, "4: 1")
	alone("without symbols, Until ahead of From", no, no, func(a *api.Alt) { a.Until = 0 }, "4: 1")
	alone("without symbols, at the end", api.OK, api.OK, func(*api.Alt) {}, "4: 3")
	alone("without symbols, past the end", api.OK, no, func(*api.Alt) {}, "4: 4")
	alone("without symbols, far past the end", api.OK, no, func(*api.Alt) {}, "4: "+strconv.Itoa(math.MaxInt))
	alone("without symbols, ahead of the text", no, no, func(*api.Alt) {}, "4: -1")
	alone("without symbols, far ahead of the text", no, no, func(*api.Alt) {}, "4: "+strconv.Itoa(math.MinInt))
	alone("a set without a byte", no, no, func(*api.Alt) {}, "2: 0 0")
	alone("a set with two bytes", no, no, func(*api.Alt) {}, "3: 0 2")
	alone("a set with a byte less than none", no, no, func(*api.Alt) {}, "3: 1 0")
	alone("a set with a byte that is not in it", api.OK, no, func(*api.Alt) {}, "2: 1 2")
	alone("a set's byte past the end", api.OK, no, func(*api.Alt) {}, "3: 3 4")
	alone("the last set with a byte that is not in it", api.OK, no, func(*api.Alt) {}, "0: 0 1 1 2")
	alone("the last set without a byte", no, no, func(*api.Alt) {}, "0: 0 1 2 2")
	alone("the last set with two bytes", no, no, func(*api.Alt) {}, "0: 0 0 1 3")
	alone("From below 0", no, no, func(*api.Alt) {}, "5: -1 0 1")
	alone("all below 0", no, no, func(*api.Alt) {}, "2: -3 -2")
	alone("the least From", no, no, func(*api.Alt) {}, "5: "+strconv.Itoa(math.MinInt)+" 0 1")
	alone("From and Until as far apart as may be", api.OK, no, func(*api.Alt) {}, "5: 0 1 "+strconv.Itoa(math.MaxInt))
	alone("the last byte of all", api.OK, no, func(*api.Alt) {}, fmt.Sprint("2: ", math.MaxInt-1, " ", math.MaxInt))
	alone("Until at the end", api.OK, api.OK, func(*api.Alt) {}, "5: 0 1 3")
	alone("Until past the end", api.OK, no, func(*api.Alt) {}, "5: 0 1 4")
	alone("From past the end", api.OK, no, func(*api.Alt) {}, "5: 4 4 4")
	together("rising Sort", api.OK, api.OK, "6: 2 3", "2: 0 1", "4: 0")
	together("falling Sort", no, no, "2: 0 1", "6: 2 3")
	together("falling Sort, the last one", no, no, "6: 2 3", "4: 0", "2: 0 1")
	together("rising From", api.OK, api.OK, "5: 0 1 3", "5: 1 1 2")
	together("falling From", no, no, "5: 1 1 2", "5: 0 1 3")
	together("rising Until", api.OK, api.OK, "8: 0 1", "5: 0 0 2")
	together("falling Until", no, no, "5: 0 0 2", "8: 0 1")
	together("rising Prod", api.OK, api.OK, "5: 0 2 2", "8: 0 2")
	together("falling Prod", no, no, "8: 0 2", "5: 0 2 2")
	together("rising Cuts", api.OK, api.OK, "5: 0 0 2", "5: 0 1 2")
	together("falling Cuts", no, no, "5: 0 1 2", "5: 0 0 2")
	together("Cuts of which the last unlike one falls", api.OK, api.OK, "0: 0 0 2 3", "0: 0 1 2 3")
	together("Cuts of which the first unlike one falls", no, no, "0: 0 1 2 3", "0: 0 0 2 3")
	together("twice the same", no, no, "5: 0 1 2", "5: 0 1 2")
	together("twice the same, without symbols", no, no, "4: 1", "4: 1")
	together("three times the same, but for the middle one", no, no, "4: 1", "5: 1 1 1", "4: 1")
	together("the last one is none", no, no, "6: 2 3", "2: 0 1", "5: 2 1 3")
	together("the first one is none", no, no, "6: 2 4", "2: 0 1", "5: 1 1 3")
	return out
}

// Each error alone, and where two are due at once, the one that the chapter names first.
func TestErrors(t *testing.T) {
	g := full()
	for _, x := range bends() {
		with := x.with
		if with == api.OK {
			with = api.ErrArg
		}
		checkRefused(t, x.what, g, "abx", x.alts, 5, x.without, x.with)
		for _, most := range []int{math.MinInt, -1000, -1, api.MaxTrees + 1, 2 * api.MaxTrees, 1 << 32, math.MaxInt} {
			checkRefused(t, fmt.Sprint(x.what, ", most of ", most), g, "abx", x.alts, most, x.without, with)
		}
		for _, most := range []int{0, 1, api.MaxTrees} {
			checkRefused(t, fmt.Sprint(x.what, ", most of ", most), g, "abx", x.alts, most, x.without, x.with)
		}
		for what, broken := range refused() {
			checkRefused(t, what+", "+x.what, broken, "abx", x.alts, 5, api.ErrGrammar, api.ErrGrammar)
			checkRefused(t, what+", most below 0, "+x.what, broken, "abx", x.alts, -1, api.ErrGrammar, api.ErrGrammar)
		}
	}
	if e := forest.Check(g, "", nil); e != api.OK {
		t.Errorf("P11.1: the empty list and text: %v", e)
	}
	for text, want := range map[string]api.Errno{"a": api.OK, "b": api.ErrForest, "": api.ErrForest, "ab": api.OK, "ba": api.ErrForest, "\x00": api.ErrForest, "\xff": api.ErrForest} {
		if e := forest.Check(g, text, list(g, "2: 0 1")); e != want {
			t.Errorf("P11.1: Check of %q: %v, want %v", text, e, want)
		}
	}
}

// Each byte in a set, and each that is not.
func TestBytes(t *testing.T) {
	for b := range 256 {
		for other := range 256 {
			g := api.Grammar{Sorts: []string{"S"}, Prods: []api.Prod{{Right: []api.Sym{{Set: sets.Of(byte(other))}, {Set: sets.Not(sets.Of(byte(other)))}}}}}
			text := string([]byte{byte(b), byte(b)})
			if e := forest.Check(g, text, list(g, "0: 0 1 2")); e != api.ErrForest {
				t.Fatalf("P11.1: byte %d in %d and all but it: %v", b, other, e)
			}
			want := api.ErrForest
			if b == other {
				want = api.OK
			}
			g.Prods[0].Right[1].Set = sets.Not(api.Set{})
			if e := forest.Check(g, text, list(g, "0: 0 1 2")); e != want {
				t.Fatalf("P11.1: byte %d in %d: %v", b, other, e)
			}
		}
	}
	g := read("S", "S = [^]")
	for b := range 256 {
		trees, e := forest.Trees(g, string([]byte{byte(b)}), list(g, "0: 0 1"), 0, 0, 1, 5)
		if e != api.OK || len(trees) != 1 || !reflect.DeepEqual(trees[0].Kids, []api.Tree{{Prod: -1, Byte: byte(b)}}) {
			t.Errorf("P11.3: byte %d: %v %v", b, trees, e)
		}
	}
}

// frozen tells a grammar and a list with spare room behind their lists, and what stands there.
func frozen(g api.Grammar, alts []api.Alt) (api.Grammar, []api.Alt, func() string) {
	g.Sorts = append(slices.Clone(g.Sorts), "spare", "spare")[:len(g.Sorts)]
	g.Prods = append(slices.Clone(g.Prods), api.Prod{Left: 7}, api.Prod{Left: 8})[:len(g.Prods)]
	for i, p := range g.Prods {
		g.Prods[i].Right = append(slices.Clone(p.Right), sort(7), sort(8))[:len(p.Right)]
	}
	g.Forbid = append(slices.Clone(g.Forbid), api.Forbid{Parent: 7})[:len(g.Forbid)]
	g.Follow = append(slices.Clone(g.Follow), api.Follow{Sort: 7})[:len(g.Follow)]
	alts = append(slices.Clone(alts), api.Alt{Sort: 7}, api.Alt{Sort: 8})[:len(alts)]
	for i, a := range alts {
		alts[i].Cuts = append(slices.Clone(a.Cuts), 7, 8)[:len(a.Cuts)]
	}
	return g, alts, func() string {
		var lists []any
		for _, p := range g.Prods[:cap(g.Prods)] {
			lists = append(lists, p.Right[:cap(p.Right)])
		}
		for _, a := range alts[:cap(alts)] {
			lists = append(lists, a.Cuts[:cap(a.Cuts)])
		}
		return fmt.Sprint(g, g.Sorts[:cap(g.Sorts)], g.Prods[:cap(g.Prods)], g.Forbid[:cap(g.Forbid)], g.Follow[:cap(g.Follow)], alts, alts[:cap(alts)], lists)
	}
}

// scribble writes over all of a list, spare room included.
func scribble[T any](l []T, with T) {
	l = l[:cap(l)]
	for i := range l {
		l[i] = with
	}
}

// scribbleTrees writes over all trees, those in them first, and asks that no other ones change with one.
func scribbleTrees(t *testing.T, trees []api.Tree) {
	t.Helper()
	var walk func(l []api.Tree)
	walk = func(l []api.Tree) {
		for i := range l {
			walk(l[i].Kids)
		}
		scribble(l, api.Tree{Prod: 77})
	}
	for i := range trees {
		rest := brief(trees[i+1:])
		for k, kid := range trees[i].Kids {
			others := brief(trees[i].Kids[k+1:])
			walk(kid.Kids)
			if brief(trees[i].Kids[k+1:]) != others {
				t.Fatalf("P11.3: the kids of %d of tree %d are those of another one", k, i)
			}
		}
		walk(trees[i].Kids)
		if brief(trees[i+1:]) != rest {
			t.Fatalf("P11.3: the kids of tree %d are those of another one", i)
		}
	}
	scribble(trees, api.Tree{Prod: 77})
}

// What is handed in is not changed, spare room included; what is answered shares no memory with another answer, nor within itself, nor with what was handed in.
func TestAnswersAreNew(t *testing.T) {
	g := full()
	for _, text := range []string{"", "x", "ax", "abx", "xx", "xax"} {
		all := waysOf(t, g, text)
		g, alts, state := frozen(g, all)
		n := root{0, 0, len(text)}
		before, want := state(), brief(ask(t, g, text, all, n, 20))
		alive, _ := forest.Alive(g, alts)
		got, again := ask(t, g, text, alts, n, 20), ask(t, g, text, alts, n, 20)
		scribbleTrees(t, got.trees)
		for i, a := range got.pruned {
			rest := brief(got.pruned[i+1:])
			scribble(a.Cuts, 77)
			if brief(got.pruned[i+1:]) != rest {
				t.Fatalf("P11.4: the Cuts of %+v are those of another one", a)
			}
		}
		scribble(got.pruned, api.Alt{Sort: 77})
		scribble(alive, false)
		if brief(again) != want || brief(ask(t, g, text, alts, n, 20)) != want {
			t.Errorf("P11.3, P11.4: another answer changed with one: %s, was %s", brief(again), want)
		}
		if state() != before {
			t.Errorf("what was handed in:\n%s, was\n%s", state(), before)
		}
	}
}

// Calls on one list at the same time tell the same.
func TestTogether(t *testing.T) {
	g := full()
	alts := waysOf(t, g, "xabx")
	want := brief(ask(t, g, "xabx", alts, root{0, 0, 4}, 9))
	got := make(chan string)
	for range 8 {
		go func() { got <- brief(ask(t, g, "xabx", alts, root{0, 0, 4}, 9)) }()
	}
	for range 8 {
		if w := <-got; w != want {
			t.Errorf("P11.2 to P11.4: %s, want %s", w, want)
		}
	}
}
