package glr_test

import (
	"fmt"
	"math"
	"reflect"
	"slices"
	"strconv"
	"strings"
	"testing"

	"rosetta/api"
	"rosetta/glr"
	"rosetta/kernel"
	"rosetta/sets"
)

// The calls' signatures, as the chapter lists them.
var (
	_ func(api.Grammar, string, int) (api.Ways, api.Errno)      = glr.Run
	_ func(api.Grammar, string, int) (api.Set, bool, api.Errno) = glr.Prefix
	_ func(api.Grammar, string, int) ([]int, api.Errno)         = glr.Sorts
	_ func(api.Grammar, int) (int, api.Errno)                   = glr.Bound
)

// brief tells a value, cut short.
func brief(v any) string {
	s := fmt.Sprintf("%+v", v)
	return s[:min(len(s), 1500)]
}

func sort(n int) api.Sym { return api.Sym{Kind: api.SymSort, Sort: n} }

func set(bytes string) api.Sym { return api.Sym{Set: sets.Of([]byte(bytes)...)} }

func readSet(text string) api.Set {
	s, e := sets.Read(text)
	if e != api.OK {
		panic(text)
	}
	return s
}

// read tells the grammar of these lines: sorts by name, the first one the Start; each line a production as layer 6's Text tells it, with reject, prefer or avoid behind a colon; or "forbid" and three numbers; or "follow", a sort and a set; or "start" and a sort.
func read(sorts string, lines ...string) api.Grammar {
	g := api.Grammar{Sorts: strings.Fields(sorts)}
	for _, line := range lines {
		words := strings.Fields(line)
		switch words[0] {
		case "forbid":
			var l [3]int
			for i := range l {
				l[i], _ = strconv.Atoi(words[i+1])
			}
			g.Forbid = append(g.Forbid, api.Forbid{Parent: l[0], At: l[1], Child: l[2]})
		case "follow":
			g.Follow = append(g.Follow, api.Follow{Sort: slices.Index(g.Sorts, words[1]), Not: readSet(words[2])})
		case "start":
			g.Start = slices.Index(g.Sorts, words[1])
		default:
			g.Prods = append(g.Prods, readProd(g, words))
		}
	}
	if kernel.Check(g) != api.OK {
		panic(brief(lines))
	}
	return g
}

// readProd tells the production that words tell.
func readProd(g api.Grammar, words []string) api.Prod {
	p := api.Prod{Left: slices.Index(g.Sorts, words[0]), From: -1}
	for _, w := range words[2:] {
		switch w {
		case ":":
		case "reject":
			p.Role = api.RoleReject
		case "prefer":
			p.Prefer = true
		case "avoid":
			p.Avoid = true
		default:
			if w[0] == '[' {
				p.Right = append(p.Right, api.Sym{Set: readSet(w)})
			} else {
				p.Right = append(p.Right, sort(slices.Index(g.Sorts, w)))
			}
		}
	}
	return p
}

// altText tells an alternative: its sort's name, From, Until, Prod, and behind a colon its Cuts.
func altText(g api.Grammar, a api.Alt) string {
	if a.Sort < 0 || a.Sort >= len(g.Sorts) {
		return fmt.Sprint("no sort: ", a)
	}
	text := fmt.Sprint(g.Sorts[a.Sort], " ", a.From, " ", a.Until, " ", a.Prod)
	if len(a.Cuts) > 0 {
		text += ": " + strings.Trim(fmt.Sprint(a.Cuts), "[]")
	}
	return text
}

// altTexts tells alternatives, a line each.
func altTexts(g api.Grammar, alts []api.Alt) []string {
	var out []string
	for _, a := range alts {
		out = append(out, altText(g, a))
	}
	return out
}

const plenty = math.MaxInt

// ran tells what Run tells of a grammar that may be and a text, and asks that all calls agree on it, at all budgets.
func ran(t *testing.T, g api.Grammar, text string) api.Ways {
	t.Helper()
	w, e := glr.Run(g, text, plenty)
	if e != api.OK {
		t.Fatalf("P10.1: %v of %q by\n%s", e, text, brief(kernel.Text(g)))
	}
	bound, e := glr.Bound(g, len(text))
	if e != api.OK || bound < w.Steps || bound > 1<<62 {
		t.Fatalf("P10.3: Bound: %d %v, of %d steps", bound, e, w.Steps)
	}
	sorts, e := glr.Sorts(g, text, plenty)
	if e != api.OK {
		t.Fatalf("P10.2: Sorts: %v", e)
	}
	if !slices.IsSorted(sorts) || len(slices.Compact(slices.Clone(sorts))) != len(sorts) {
		t.Fatalf("P10.2: Sorts do not rise: %v", sorts)
	}
	for _, budget := range []int{w.Steps, bound} {
		if again, e := glr.Run(g, text, budget); e != api.OK || !reflect.DeepEqual(again, w) {
			t.Fatalf("P10.1, P10.4: with a budget of %d: %s %v, want %s", budget, brief(again), e, brief(w))
		}
		next, at, e := glr.Prefix(g, text, budget)
		if want := w.Far == len(text); e != api.OK || at != want || want && next != w.Next || !want && next != (api.Set{}) {
			t.Fatalf("P10.2: Prefix with a budget of %d: %s %v %v; Run: Far %d, Next %s", budget, sets.Text(next), at, e, w.Far, sets.Text(w.Next))
		}
		if again, e := glr.Sorts(g, text, budget); e != api.OK || !slices.Equal(again, sorts) {
			t.Fatalf("P10.2: Sorts with a budget of %d: %v %v, want %v", budget, again, e, sorts)
		}
	}
	if w.Steps > 0 {
		checkRefused(t, "one step too few", g, text, w.Steps-1, api.ErrBudget)
	}
	return w
}

// checkRefused asks that Run, Prefix and Sorts refuse, and tell nothing beside.
func checkRefused(t *testing.T, what string, g api.Grammar, text string, budget int, want api.Errno) {
	t.Helper()
	if w, e := glr.Run(g, text, budget); e != want || !reflect.DeepEqual(w, api.Ways{}) {
		t.Errorf("P10.1: %s: Run: %s %v, want %v", what, brief(w), e, want)
	}
	if next, at, e := glr.Prefix(g, text, budget); e != want || at || next != (api.Set{}) {
		t.Errorf("P10.2: %s: Prefix: %v %v %v, want %v", what, next, at, e, want)
	}
	if l, e := glr.Sorts(g, text, budget); e != want || l != nil {
		t.Errorf("P10.2: %s: Sorts: %v %v, want %v", what, l, e, want)
	}
}

// checkRun asks what the ways through a text are: how many steps, how far and what may come there ("2 [ab]"), which alternatives, a line each; and that all models tell the same.
func checkRun(t *testing.T, what string, g api.Grammar, text string, steps int, far string, alts ...string) {
	t.Helper()
	w := ran(t, g, text)
	if got := altTexts(g, w.Alts); !slices.Equal(got, alts) {
		t.Errorf("P10.1: %s: %q:\n%s\nwant\n%s", what, text, brief(strings.Join(got, "\n")), strings.Join(alts, "\n"))
	}
	if got := fmt.Sprint(w.Far, " ", sets.Text(w.Next)); got != far || w.Steps != steps {
		t.Errorf("P10.1: %s: %q: Far and Next %s, %d steps, want %s, %d", what, text, got, w.Steps, far, steps)
	}
	checkModels(t, g, text)
}

// sortNames tells the names of the sorts that may begin behind a text.
func sortNames(t *testing.T, g api.Grammar, text string) string {
	t.Helper()
	l, e := glr.Sorts(g, text, plenty)
	if e != api.OK {
		t.Errorf("P10.2: Sorts: %v", e)
	}
	var out []string
	for _, n := range l {
		out = append(out, g.Sorts[n])
	}
	return strings.Join(out, " ")
}

// example is the chapter's own G.
func example() api.Grammar {
	return read("S", "S = S S", "S = [a]")
}

// The chapter's own examples.
func TestExamples(t *testing.T) {
	g := example()
	checkRun(t, "the chapter's G", g, "aa", 8, "2 [a]", "S 0 1 1: 1", "S 0 2 0: 1 2", "S 1 2 1: 2")
	checkRun(t, "the chapter's G", g, "ab", 3, "1 [a]", "S 0 1 1: 1")
	if w, e := glr.Run(g, "aa", 100); e != api.OK || len(w.Alts) != 3 || w.Far != 2 || w.Next != readSet("[a]") {
		t.Errorf("P10.1: %+v %v", w, e)
	}
	checkRefused(t, "Run(G, aa, 1)", g, "aa", 1, api.ErrBudget)
	if next, at, e := glr.Prefix(g, "a", 100); next != readSet("[a]") || !at || e != api.OK {
		t.Errorf("P10.2: Prefix of a: %v %v %v", next, at, e)
	}
	if next, at, e := glr.Prefix(g, "b", 100); next != (api.Set{}) || at || e != api.OK {
		t.Errorf("P10.2: Prefix of b: %v %v %v", next, at, e)
	}
	// Three states lead on by two each; three places; two and one symbols.
	if n, e := glr.Bound(g, 2); n != 6*6+10+6 || e != api.OK {
		t.Errorf("P10.3: Bound: %d %v", n, e)
	}
}

// refused are grammars that may not be, each for one reason.
func refused() map[string]api.Grammar {
	out := map[string]api.Grammar{"nothing": {}, "no sort": {Prods: example().Prods}}
	bend := func(what string, f func(g *api.Grammar)) {
		g := full()
		f(&g)
		if kernel.Check(g) != api.ErrGrammar {
			panic(what)
		}
		out[what] = g
	}
	bend("two sorts of one name", func(g *api.Grammar) { g.Sorts[2] = "S" })
	bend("a sort without a name", func(g *api.Grammar) { g.Sorts[1] = "" })
	bend("a Start past the last sort", func(g *api.Grammar) { g.Start = 5 })
	bend("a Start below 0", func(g *api.Grammar) { g.Start = -1 })
	bend("a Left past the last sort", func(g *api.Grammar) { g.Prods[4].Left = 5 })
	bend("a Left below 0", func(g *api.Grammar) { g.Prods[0].Left = math.MinInt })
	bend("a symbol's sort past the last one", func(g *api.Grammar) { g.Prods[0].Right[1].Sort = 5 })
	bend("a symbol's sort below 0", func(g *api.Grammar) { g.Prods[3].Right[1].Sort = -1 })
	bend("a symbol of no kind", func(g *api.Grammar) { g.Prods[0].Right[0].Kind = 2 })
	bend("an empty set", func(g *api.Grammar) { g.Prods[1].Right[0].Set = api.Set{} })
	bend("a set that is a sort", func(g *api.Grammar) { g.Prods[1].Right[0].Sort = 1 })
	bend("a role that is none", func(g *api.Grammar) { g.Prods[1].Role = 12 })
	bend("a rejected sort", func(g *api.Grammar) { g.Prods[4].Role = api.RoleReject })
	bend("Prefer and Avoid", func(g *api.Grammar) { g.Prods[2].Prefer, g.Prods[2].Avoid = true, true })
	bend("a From below -1", func(g *api.Grammar) { g.Prods[2].From = -2 })
	bend("a Follow of nothing", func(g *api.Grammar) { g.Follow = []api.Follow{{}} })
	bend("a Forbid of nothing", func(g *api.Grammar) { g.Forbid = []api.Forbid{{}} })
	bend("31 symbols", func(g *api.Grammar) { g.Prods[4].Right = slices.Repeat([]api.Sym{sort(1)}, api.MaxRight+1) })
	bend("1001 productions", func(g *api.Grammar) { g.Prods = slices.Repeat(g.Prods[2:3], api.MaxProds+1) })
	return out
}

// doubling tells a grammar whose states are all sets of ways in which the last so many bytes were a or not, and two more.
func doubling(length int) api.Grammar {
	g := read("S", "S = [ab] S", "S = [a]")
	g.Prods[1].Right = append(g.Prods[1].Right, slices.Repeat([]api.Sym{set("ab")}, length-1)...)
	return g
}

// Each error alone; and where two are due at once, the one that the chapter names first.
func TestErrors(t *testing.T) {
	g, many := example(), doubling(14)
	long := strings.Repeat("b", api.MaxParse+1)
	for what, g := range refused() {
		checkRefused(t, what, g, "a", 100, api.ErrGrammar)
		checkRefused(t, what+", a long text", g, long, 100, api.ErrGrammar)
		checkRefused(t, what+", no budget", g, "a", -1, api.ErrGrammar)
		checkRefused(t, what+", a long text, no budget", g, long, -1, api.ErrGrammar)
	}
	broken := doubling(14)
	broken.Follow = []api.Follow{{}}
	checkRefused(t, "too many states of a grammar that may not be", broken, "a", 100, api.ErrGrammar)
	checkRefused(t, "a long text", g, long, 100, api.ErrLong)
	checkRefused(t, "a long text without a budget", g, long, 0, api.ErrLong)
	checkRefused(t, "a long text, a budget below 0", g, long, -1, api.ErrLong)
	checkRefused(t, "a text of 2^20 bytes", g, strings.Repeat("a", api.MaxText), math.MaxInt, api.ErrLong)
	checkRefused(t, "too many states", many, "", 100, api.ErrLong)
	checkRefused(t, "too many states, no budget", many, "a", 0, api.ErrLong)
	checkRefused(t, "too many states, a budget below 0", many, "a", -1, api.ErrLong)
	checkRefused(t, "too many states, a long text, a budget below 0", many, long, -1, api.ErrLong)
	for _, budget := range []int{-1, -2, -1 << 31, -1 << 32, -1 << 62, math.MinInt} {
		checkRefused(t, "a budget below 0", g, "aa", budget, api.ErrArg)
		checkRefused(t, "a budget below 0, of a text without steps", g, "", budget, api.ErrArg)
	}
	for _, budget := range []int{0, 1, 7} {
		checkRefused(t, "a small budget", g, "aa", budget, api.ErrBudget)
	}
	ran(t, doubling(13), "aba") // one byte less, and there are as few states as may be
}

// A text of MaxParse bytes goes.
func TestMaxParse(t *testing.T) {
	text := strings.Repeat("ab", api.MaxParse/2)
	const n = api.MaxParse
	g := read("S", "S = S [ab]", "S =")
	w := ran(t, g, text)
	if len(w.Alts) != n+1 || w.Steps != 3*n+2 || w.Far != n || w.Next != readSet("[ab]") {
		t.Fatalf("P10.1: %d alternatives, %d steps, Far %d", len(w.Alts), w.Steps, w.Far)
	}
	for i, a := range w.Alts[1:] {
		if a.From != 0 || a.Until != i+1 || a.Prod != 0 || !slices.Equal(a.Cuts, []int{i, i + 1}) {
			t.Fatalf("P10.1: %+v", a)
		}
	}
	// The last byte is none that may come: all but it is read.
	if w := ran(t, g, text[1:]+"c"); w.Far != n-1 || w.Next != readSet("[ab]") || len(w.Alts) != n {
		t.Errorf("P10.1: Far %d, %d alternatives", w.Far, len(w.Alts))
	}
	checkRefused(t, "a few steps of many", example(), strings.Repeat("a", n), 1000, api.ErrBudget)
	checkRefused(t, "many steps of more", example(), strings.Repeat("a", n), 1_000_000, api.ErrBudget)
}

// Budgets of texts with no steps at all, with edges alone, and with alternatives.
func TestBudgets(t *testing.T) {
	for _, g := range []api.Grammar{read("S"), read("S", "S = [a]"), read("S", "S = S S")} {
		if w := ran(t, g, ""); w.Steps != 0 {
			t.Errorf("P10.1: %d steps", w.Steps)
		}
	}
	g := read("S A", "S = A [b]", "A = [a] [a]", "A =")
	for text, steps := range map[string]int{"": 2, "a": 3, "aa": 6, "aab": 8, "aabb": 8, "b": 4, "c": 2} {
		if w := ran(t, g, text); w.Steps != steps {
			t.Errorf("P10.1: %q: %d steps, want %d", text, w.Steps, steps)
		}
		for budget := range steps {
			checkRefused(t, text, g, text, budget, api.ErrBudget)
		}
		for _, budget := range []int{steps, steps + 1, 1 << 31, 1<<32 - 1, 1 << 62, math.MaxInt} {
			if w, e := glr.Run(g, text, budget); e != api.OK || w.Steps != steps {
				t.Errorf("P10.1: %q, a budget of %d: %v", text, budget, e)
			}
		}
	}
}

// full is a grammar with something of all.
func full() api.Grammar {
	return read("S A B C D", "S = A B [x]", "S = [ab] S : prefer", "A =", "A = [a] A : avoid", "B = A A", "B = [b]", "B = [b] [c] : reject", "C = D [c]", "D = C", "D = [d]", "A = : reject", "S = C",
		"forbid 0 2 5", "forbid 3 2 3", "follow A [a]", "follow S [^x]")
}

// frozen tells a grammar with spare room behind its lists, and what stands there.
func frozen(g api.Grammar) (api.Grammar, func() string) {
	g.Sorts = append(slices.Clone(g.Sorts), "spare", "spare")[:len(g.Sorts)]
	g.Prods = append(slices.Clone(g.Prods), api.Prod{Left: 7}, api.Prod{Left: 8})[:len(g.Prods)]
	for i, p := range g.Prods {
		g.Prods[i].Right = append(slices.Clone(p.Right), sort(7), sort(8))[:len(p.Right)]
	}
	g.Forbid = append(slices.Clone(g.Forbid), api.Forbid{Parent: 7})[:len(g.Forbid)]
	g.Follow = append(slices.Clone(g.Follow), api.Follow{Sort: 7})[:len(g.Follow)]
	return g, func() string {
		var rights [][]api.Sym
		for _, p := range g.Prods[:cap(g.Prods)] {
			rights = append(rights, p.Right[:cap(p.Right)])
		}
		return fmt.Sprint(g, g.Sorts[:cap(g.Sorts)], g.Prods[:cap(g.Prods)], rights, g.Forbid[:cap(g.Forbid)], g.Follow[:cap(g.Follow)])
	}
}

// scribble writes over all of a list, spare room included.
func scribble[T any](l []T, with T) {
	l = l[:cap(l)]
	for i := range l {
		l[i] = with
	}
}

// What is handed in is not changed, spare room included; what is answered shares no memory with another answer, nor within itself, nor with what was handed in.
func TestAnswersAreNew(t *testing.T) {
	for text, g := range map[string]api.Grammar{"aaaa": example(), "aabaabx": full(), "ddc": full()} {
		frozen, state := frozen(g)
		before := state()
		w, again := ran(t, frozen, text), ran(t, frozen, text)
		sorts, _ := glr.Sorts(frozen, text, plenty)
		moreSorts, _ := glr.Sorts(frozen, text, plenty)
		want, wantSorts := brief(ran(t, g, text)), slices.Clone(sorts)
		if state() != before {
			t.Errorf("what was handed in:\n%s, was\n%s", state(), before)
		}
		scribble(sorts, 77)
		for i, a := range w.Alts {
			rest := brief(w.Alts[i+1:])
			scribble(a.Cuts, 77)
			if brief(w.Alts[i+1:]) != rest {
				t.Fatalf("P10.1: the Cuts of %+v are those of another one", a)
			}
		}
		scribble(w.Alts, api.Alt{Sort: 77})
		if brief(again) != want || !slices.Equal(moreSorts, wantSorts) || brief(ran(t, frozen, text)) != want || state() != before {
			t.Errorf("P10.1: another answer changed with one: %s, was %s", brief(again), want)
		}
	}
}

// Calls on one grammar at the same time tell the same.
func TestTogether(t *testing.T) {
	g := full()
	want := brief(ran(t, g, "aabaabx"))
	got := make(chan string)
	for range 8 {
		go func() {
			w, _ := glr.Run(g, "aabaabx", plenty)
			got <- brief(w)
		}()
	}
	for range 8 {
		if w := <-got; w != want {
			t.Errorf("P10.1: %s, want %s", w, want)
		}
	}
}
