package facts_test

import (
	"fmt"
	"math"
	"reflect"
	"slices"
	"strconv"
	"strings"
	"testing"

	"rosetta/api"
	"rosetta/facts"
	"rosetta/kernel"
	"rosetta/sets"
)

// The calls' signatures, as the chapter lists them.
var (
	_ func(api.Grammar) ([]bool, api.Errno)      = facts.Productive
	_ func(api.Grammar) ([]bool, api.Errno)      = facts.Reached
	_ func(api.Grammar) ([]bool, api.Errno)      = facts.Nullable
	_ func(api.Grammar) ([]api.Set, api.Errno)   = facts.First
	_ func(api.Grammar) ([]api.Set, api.Errno)   = facts.Follow
	_ func(api.Grammar) ([]bool, api.Errno)      = facts.Ends
	_ func(api.Grammar) ([]int, api.Errno)       = facts.Shortest
	_ func(api.Grammar, int) (string, api.Errno) = facts.Sample
	_ func(api.Grammar) ([]bool, api.Errno)      = facts.Circular
)

// brief tells a value, cut short.
func brief(v any) string {
	s := fmt.Sprintf("%+v", v)
	return s[:min(len(s), 600)]
}

func sort(n int) api.Sym { return api.Sym{Kind: api.SymSort, Sort: n} }

func set(bytes string) api.Sym { return api.Sym{Set: sets.Of([]byte(bytes)...)} }

func readSet(text string) api.Set {
	s, e := sets.Read(text)
	if e != api.OK {
		panic(text)
	}
	return s
}

// read tells the grammar of these lines: sorts by name, the first one the Start; each line a production as layer 6's Text tells it, with reject, prefer or avoid behind a colon; or "forbid" and three numbers; or "follow", a sort and a set; or "start" and a sort.
func read(sorts string, lines ...string) api.Grammar {
	g := api.Grammar{Sorts: strings.Fields(sorts)}
	for _, line := range lines {
		words := strings.Fields(line)
		switch words[0] {
		case "forbid":
			var l [3]int
			for i := range l {
				l[i], _ = strconv.Atoi(words[i+1])
			}
			g.Forbid = append(g.Forbid, api.Forbid{Parent: l[0], At: l[1], Child: l[2]})
		case "follow":
			g.Follow = append(g.Follow, api.Follow{Sort: slices.Index(g.Sorts, words[1]), Not: readSet(words[2])})
		case "start":
			g.Start = slices.Index(g.Sorts, words[1])
		default:
			g.Prods = append(g.Prods, readProd(g, words))
		}
	}
	if kernel.Check(g) != api.OK {
		panic(brief(lines))
	}
	return g
}

// readProd tells the production that words tell.
func readProd(g api.Grammar, words []string) api.Prod {
	p := api.Prod{Left: slices.Index(g.Sorts, words[0]), From: -1}
	for _, w := range words[2:] {
		switch w {
		case ":":
		case "reject":
			p.Role = api.RoleReject
		case "prefer":
			p.Prefer = true
		case "avoid":
			p.Avoid = true
		default:
			if w[0] == '[' {
				p.Right = append(p.Right, api.Sym{Set: readSet(w)})
			} else {
				p.Right = append(p.Right, sort(slices.Index(g.Sorts, w)))
			}
		}
	}
	return p
}

// told is all that the calls answer of a grammar.
type told struct {
	Productive, Reached, Nullable, Ends, Circular []bool
	First, Follow                                 []api.Set
	Shortest                                      []int
	Samples                                       []string
	Refused                                       []api.Errno // by Sample, of each sort
}

// all asks all of a grammar that may be.
func all(t *testing.T, g api.Grammar) told {
	t.Helper()
	out := eight(t, g)
	for n := range g.Sorts {
		text, e := facts.Sample(g, n)
		out.Samples, out.Refused = append(out.Samples, text), append(out.Refused, e)
	}
	return out
}

// eight asks all but Sample.
func eight(t *testing.T, g api.Grammar) told {
	t.Helper()
	var out told
	var e [8]api.Errno
	out.Productive, e[0] = facts.Productive(g)
	out.Reached, e[1] = facts.Reached(g)
	out.Nullable, e[2] = facts.Nullable(g)
	out.First, e[3] = facts.First(g)
	out.Follow, e[4] = facts.Follow(g)
	out.Ends, e[5] = facts.Ends(g)
	out.Shortest, e[6] = facts.Shortest(g)
	out.Circular, e[7] = facts.Circular(g)
	if e != [8]api.Errno{} {
		t.Errorf("refused: %v: %s", e, brief(kernel.Text(g)))
	}
	return out
}

// names tells the names of the sorts of which something is true.
func names(g api.Grammar, l []bool) string {
	if len(l) != len(g.Sorts) {
		return fmt.Sprint(len(l), " of ", len(g.Sorts))
	}
	var out []string
	for n, is := range l {
		if is {
			out = append(out, g.Sorts[n])
		}
	}
	return strings.Join(out, " ")
}

// setsOf tells the sets that are not empty, by sorts' names.
func setsOf(g api.Grammar, l []api.Set) string {
	if len(l) != len(g.Sorts) {
		return fmt.Sprint(len(l), " of ", len(g.Sorts))
	}
	var out []string
	for n, s := range l {
		if s != (api.Set{}) {
			out = append(out, g.Sorts[n]+sets.Text(s))
		}
	}
	return strings.Join(out, " ")
}

// textsOf tells samples by sorts' names, in words: "A ab", then "B" of the empty text; those that are refused with their errors.
func textsOf(g api.Grammar, all told) string {
	var out []string
	for n, text := range all.Samples {
		word := g.Sorts[n]
		switch e := all.Refused[n]; {
		case e == api.ErrDead && text == "":
			word += " dead"
		case e == api.ErrLong && text == "":
			word += " long"
		case e != api.OK:
			word += fmt.Sprint(" ", e, text)
		case text != "":
			word += " " + text
		}
		out = append(out, word)
	}
	return strings.Join(out, ", ")
}

// want is what must be told of a grammar, as words: of each question by its name. What is not named is not asked.
type want map[string]string

// checkAll asks that what is told of a grammar is what it must be.
func checkAll(t *testing.T, what string, g api.Grammar, w want) {
	t.Helper()
	a := all(t, g)
	got := want{
		"Productive": names(g, a.Productive), "Reached": names(g, a.Reached), "Nullable": names(g, a.Nullable), "Circular": names(g, a.Circular),
		"First": setsOf(g, a.First), "Follow": setsOf(g, a.Follow), "Ends": names(g, a.Ends),
		"Shortest": strings.Trim(fmt.Sprint(a.Shortest), "[]"), "Sample": textsOf(g, a),
	}
	promises := want{"First": "P8.2", "Follow": "P8.2", "Ends": "P8.2", "Shortest": "P8.3", "Sample": "P8.3"}
	for question, words := range w {
		if got[question] != words {
			promise := promises[question]
			if promise == "" {
				promise = "P8.1"
			}
			t.Errorf("%s: %s: %s: %q, want %q", promise, what, question, brief(got[question]), brief(words))
		}
	}
}

// example is the chapter's own G.
func example() api.Grammar {
	return read("S A B", "S = A S", "S = [x]", "A =", "A = [a] A", "B = B")
}

// The chapter's own examples.
func TestExamples(t *testing.T) {
	checkAll(t, "the chapter's G", example(), want{
		"Productive": "S A", "Reached": "S A", "Nullable": "A", "Circular": "S",
		"First": "S[ax] A[a]", "Follow": "A[ax]", "Ends": "S",
		"Shortest": "1 0 -1", "Sample": "S x, A, B dead",
	})
}

// refused are grammars that may not be, each for one reason, with a sort 0 that could be asked for.
func refused() map[string]api.Grammar {
	out := map[string]api.Grammar{"nothing": {}, "no sort": {Prods: example().Prods}}
	bend := func(what string, f func(g *api.Grammar)) {
		g := example()
		f(&g)
		out[what] = g
	}
	bend("two sorts of one name", func(g *api.Grammar) { g.Sorts[2] = "S" })
	bend("a sort without a name", func(g *api.Grammar) { g.Sorts[1] = "" })
	bend("a Start past the last sort", func(g *api.Grammar) { g.Start = 3 })
	bend("a Start below 0", func(g *api.Grammar) { g.Start = -1 })
	bend("a Left past the last sort", func(g *api.Grammar) { g.Prods[4].Left = 3 })
	bend("a Left below 0", func(g *api.Grammar) { g.Prods[0].Left = math.MinInt })
	bend("a symbol's sort past the last one", func(g *api.Grammar) { g.Prods[0].Right[1].Sort = 3 })
	bend("a symbol's sort below 0", func(g *api.Grammar) { g.Prods[3].Right[1].Sort = -1 })
	bend("a symbol of no kind", func(g *api.Grammar) { g.Prods[0].Right[0].Kind = 2 })
	bend("an empty set", func(g *api.Grammar) { g.Prods[1].Right[0].Set = api.Set{} })
	bend("a set that is a sort", func(g *api.Grammar) { g.Prods[1].Right[0].Sort = 1 })
	bend("a role that is none", func(g *api.Grammar) { g.Prods[1].Role = 12 })
	bend("a rejected sort", func(g *api.Grammar) { g.Prods[4].Role = api.RoleReject })
	bend("Prefer and Avoid", func(g *api.Grammar) { g.Prods[2].Prefer, g.Prods[2].Avoid = true, true })
	bend("a From below -1", func(g *api.Grammar) { g.Prods[2].From = -2 })
	bend("a Follow of nothing", func(g *api.Grammar) { g.Follow = []api.Follow{{}} })
	bend("a Forbid of nothing", func(g *api.Grammar) { g.Forbid = []api.Forbid{{}} })
	bend("31 symbols", func(g *api.Grammar) { g.Prods[4].Right = slices.Repeat([]api.Sym{sort(1)}, api.MaxRight+1) })
	bend("1001 productions", func(g *api.Grammar) { g.Prods = slices.Repeat(g.Prods[2:3], api.MaxProds+1) })
	bend("1001 sorts", func(g *api.Grammar) {
		for n := range api.MaxProds - 2 {
			g.Sorts = append(g.Sorts, "T"+strconv.Itoa(n))
		}
	})
	return out
}

// Each of the nine calls refuses a grammar that may not be, Sample also ahead of a sort that is none; and tells nothing beside.
func TestGrammar(t *testing.T) {
	for what, g := range refused() {
		for call, f := range map[string]func(api.Grammar) ([]bool, api.Errno){
			"P8.1: Productive": facts.Productive, "P8.1: Reached": facts.Reached, "P8.1: Nullable": facts.Nullable, "P8.1: Circular": facts.Circular, "P8.2: Ends": facts.Ends,
		} {
			if l, e := f(g); l != nil || e != api.ErrGrammar {
				t.Errorf("%s of %s: %v %v", call, what, l, e)
			}
		}
		for call, f := range map[string]func(api.Grammar) ([]api.Set, api.Errno){"First": facts.First, "Follow": facts.Follow} {
			if l, e := f(g); l != nil || e != api.ErrGrammar {
				t.Errorf("P8.2: %s of %s: %v %v", call, what, l, e)
			}
		}
		if l, e := facts.Shortest(g); l != nil || e != api.ErrGrammar {
			t.Errorf("P8.3: Shortest of %s: %v %v", what, l, e)
		}
		for _, n := range []int{0, 1, 2, 3, -1, 1000, 1001, math.MaxInt, math.MinInt} {
			if s, e := facts.Sample(g, n); s != "" || e != api.ErrGrammar {
				t.Errorf("P8.3: Sample of %s, %d: %q %v", what, n, s, e)
			}
		}
	}
}

// One sort alone, without and with productions; and as many of all as may be.
func TestLeastGrammars(t *testing.T) {
	nothing := want{"Productive": "", "Reached": "S", "Nullable": "", "Circular": "", "First": "", "Follow": "", "Ends": "", "Shortest": "-1", "Sample": "S dead"}
	checkAll(t, "no production", read("S"), nothing)
	checkAll(t, "a sort of itself", read("S", "S = S"), nothing)
	checkAll(t, "a sort twice of itself", read("S", "S = S S", "S = [a] S"), nothing)
	checkAll(t, "the empty text", read("S", "S ="), want{"Productive": "S", "Reached": "S", "Nullable": "S", "Circular": "", "First": "", "Follow": "", "Ends": "S", "Shortest": "0", "Sample": "S"})
	checkAll(t, "a byte", read("S", "S = [b]"), want{"Productive": "S", "Reached": "S", "Nullable": "", "Circular": "", "First": "S[b]", "Follow": "", "Ends": "S", "Shortest": "1", "Sample": "S b"})
	g := api.Grammar{Sorts: []string{"S"}}
	for n := range api.MaxProds - 1 {
		g.Sorts = append(g.Sorts, "T"+strconv.Itoa(n))
	}
	g.Prods = slices.Repeat([]api.Prod{{Left: 999, Right: slices.Repeat([]api.Sym{sort(998)}, api.MaxRight)}}, api.MaxProds)
	checkAll(t, "as much as may be", g, want{"Productive": "", "Reached": "S", "Ends": "", "Shortest": strings.Trim(strings.Repeat("-1 ", 1000), " ")})
	g.Start = 999
	checkAll(t, "as much as may be, from the last sort on", g, want{"Productive": "", "Reached": "T997 T998", "Ends": "", "Circular": ""})
}

// frozen tells a grammar with spare room behind its lists, and what stands there.
func frozen(g api.Grammar) (api.Grammar, func() string) {
	g.Sorts = append(slices.Clone(g.Sorts), "spare", "spare")[:len(g.Sorts)]
	g.Prods = append(slices.Clone(g.Prods), api.Prod{Left: 7}, api.Prod{Left: 8})[:len(g.Prods)]
	for i, p := range g.Prods {
		g.Prods[i].Right = append(slices.Clone(p.Right), sort(7), sort(8))[:len(p.Right)]
	}
	g.Forbid = append(slices.Clone(g.Forbid), api.Forbid{Parent: 7})[:len(g.Forbid)]
	g.Follow = append(slices.Clone(g.Follow), api.Follow{Sort: 7})[:len(g.Follow)]
	return g, func() string {
		var rights [][]api.Sym
		for _, p := range g.Prods[:cap(g.Prods)] {
			rights = append(rights, p.Right[:cap(p.Right)])
		}
		return fmt.Sprint(g, g.Sorts[:cap(g.Sorts)], g.Prods[:cap(g.Prods)], rights, g.Forbid[:cap(g.Forbid)], g.Follow[:cap(g.Follow)])
	}
}

// full is a grammar with something of all.
func full() api.Grammar {
	return read("S A B C D", "S = A B [x]", "S = [ab] S : prefer", "A =", "A = [a] A : avoid", "B = A A", "B = [b]", "B = [b] [c] : reject", "C = D [c]", "D = C", "D = [d]", "A = : reject", "S = C",
		"forbid 0 2 5", "forbid 3 2 3", "follow A [a]", "follow S [^x]")
}

// What is handed in is not changed, spare room included.
func TestHandedIn(t *testing.T) {
	for _, g := range []api.Grammar{example(), full()} {
		frozen, state := frozen(g)
		before := state()
		all(t, frozen)
		if after := state(); after != before {
			t.Errorf("what was handed in:\n%s, was\n%s", after, before)
		}
	}
}

// scribble writes over all of a list, spare room included.
func scribble[T any](l []T, with T) {
	l = l[:cap(l)]
	for i := range l {
		l[i] = with
	}
}

// What is answered shares no memory with another answer, nor with what was handed in.
func TestAnswersAreNew(t *testing.T) {
	for _, g := range []api.Grammar{example(), full()} {
		frozen, state := frozen(g)
		before, first := state(), all(t, frozen)
		again := all(t, frozen)
		for _, l := range [][]bool{first.Productive, first.Reached, first.Nullable, first.Ends, first.Circular} {
			for i, is := range l {
				l[i] = !is
			}
		}
		scribble(first.First, sets.All())
		scribble(first.Follow, sets.All())
		scribble(first.Shortest, 77)
		if !reflect.DeepEqual(again, all(t, frozen)) || state() != before {
			t.Errorf("P8.1 to P8.3: other answers changed with one: %+v", again)
		}
	}
}
