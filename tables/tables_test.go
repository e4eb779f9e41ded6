package tables_test

import (
	"fmt"
	"iter"
	"math"
	"reflect"
	"slices"
	"strconv"
	"strings"
	"sync"
	"testing"

	"rosetta/api"
	"rosetta/kernel"
	"rosetta/sets"
	"rosetta/tables"
)

// The calls' signatures, as the chapter lists them.
var (
	_ func(api.Grammar) (*tables.Tables, api.Errno)     = tables.Make
	_ func(*tables.Tables) int                          = (*tables.Tables).States
	_ func(*tables.Tables) int                          = (*tables.Tables).Start
	_ func(*tables.Tables, int) []api.Item              = (*tables.Tables).Items
	_ func(*tables.Tables, int, byte) (int, bool)       = (*tables.Tables).Shift
	_ func(*tables.Tables, int, int) (int, bool)        = (*tables.Tables).Goto
	_ func(*tables.Tables, int) []int                   = (*tables.Tables).Reduces
	_ func(*tables.Tables, int) api.Set                 = (*tables.Tables).Next
	_ func(*tables.Tables, int) int                     = (*tables.Tables).Leads
	_ func(*tables.Tables, int) iter.Seq2[api.Sym, int] = (*tables.Tables).All
)

// brief tells a value, cut short.
func brief(v any) string {
	s := fmt.Sprintf("%+v", v)
	return s[:min(len(s), 1500)]
}

func sort(n int) api.Sym { return api.Sym{Kind: api.SymSort, Sort: n} }

func set(bytes string) api.Sym { return api.Sym{Set: sets.Of([]byte(bytes)...)} }

func readSet(text string) api.Set {
	s, e := sets.Read(text)
	if e != api.OK {
		panic(text)
	}
	return s
}

// read tells the grammar of these lines: sorts by name, the first one the Start; each line a production as layer 6's Text tells it, with reject, prefer or avoid behind a colon; or "forbid" and three numbers; or "follow", a sort and a set; or "start" and a sort.
func read(sorts string, lines ...string) api.Grammar {
	g := api.Grammar{Sorts: strings.Fields(sorts)}
	for _, line := range lines {
		words := strings.Fields(line)
		switch words[0] {
		case "forbid":
			var l [3]int
			for i := range l {
				l[i], _ = strconv.Atoi(words[i+1])
			}
			g.Forbid = append(g.Forbid, api.Forbid{Parent: l[0], At: l[1], Child: l[2]})
		case "follow":
			g.Follow = append(g.Follow, api.Follow{Sort: slices.Index(g.Sorts, words[1]), Not: readSet(words[2])})
		case "start":
			g.Start = slices.Index(g.Sorts, words[1])
		default:
			g.Prods = append(g.Prods, readProd(g, words))
		}
	}
	if kernel.Check(g) != api.OK {
		panic(brief(lines))
	}
	return g
}

// readProd tells the production that words tell.
func readProd(g api.Grammar, words []string) api.Prod {
	p := api.Prod{Left: slices.Index(g.Sorts, words[0]), From: -1}
	for _, w := range words[2:] {
		switch w {
		case ":":
		case "reject":
			p.Role = api.RoleReject
		case "prefer":
			p.Prefer = true
		case "avoid":
			p.Avoid = true
		default:
			if w[0] == '[' {
				p.Right = append(p.Right, api.Sym{Set: readSet(w)})
			} else {
				p.Right = append(p.Right, sort(slices.Index(g.Sorts, w)))
			}
		}
	}
	return p
}

// made tells the tables of a grammar that may be, and asks that what they tell agrees.
func made(t *testing.T, g api.Grammar) *tables.Tables {
	t.Helper()
	x, e := tables.Make(g)
	if x == nil || e != api.OK {
		t.Fatalf("P9.1: Make of %s: %v", brief(g), e)
	}
	checkAgrees(t, g, x)
	return x
}

// itemsText tells items: "0.1" is production 0 with the Dot 1.
func itemsText(l []api.Item) string {
	var out []string
	for _, it := range l {
		out = append(out, fmt.Sprint(it.Prod, ".", it.Dot))
	}
	return strings.Join(out, " ")
}

// edgeText tells an edge: "S>1", "[a]>2".
func edgeText(g api.Grammar, s api.Sym, to int) string {
	name := ""
	switch {
	case s.Kind == api.SymSet && s.Sort == 0:
		name = sets.Text(s.Set)
	case s.Kind == api.SymSort && s.Set == (api.Set{}) && 0 <= s.Sort && s.Sort < len(g.Sorts):
		name = g.Sorts[s.Sort]
	default:
		name = fmt.Sprint("no symbol: ", s)
	}
	return fmt.Sprint(name, ">", to)
}

// line tells a state: its items, what it leads on by, and what is complete in it.
func line(items string, edges []string, complete []int) string {
	return strings.Join([]string{items, strings.Join(edges, " "), strings.Trim(fmt.Sprint(complete), "[]")}, " / ")
}

// lines tells all states.
func lines(g api.Grammar, x *tables.Tables) []string {
	var out []string
	for n := range x.States() {
		var edges []string
		for s, to := range x.All(n) {
			edges = append(edges, edgeText(g, s, to))
		}
		out = append(out, line(itemsText(x.Items(n)), edges, x.Reduces(n)))
	}
	return out
}

// checkLines asks what the states of a grammar are, a line each.
func checkLines(t *testing.T, what string, g api.Grammar, want ...string) {
	t.Helper()
	if got := lines(g, made(t, g)); !slices.Equal(got, want) {
		t.Errorf("P9.1 to P9.3: %s:\n%s\nwant\n%s", what, brief(strings.Join(got, "\n")), strings.Join(want, "\n"))
	}
}

// sortNumbers are numbers of sorts, and of such as there are not.
func sortNumbers(g api.Grammar) []int {
	out := []int{-1, -2, len(g.Sorts), len(g.Sorts) + 1, len(g.Sorts) + 2, api.MaxProds, 1 << 31, 1<<32 + 1, 1 << 32, -1 << 32, 1<<32 - 1, math.MaxInt, math.MinInt}
	for n := range g.Sorts {
		out = append(out, n)
	}
	return out
}

// checkAgrees asks that Shift, Goto, Next and Leads tell what All tells.
func checkAgrees(t *testing.T, g api.Grammar, x *tables.Tables) {
	t.Helper()
	for n := range x.States() {
		var next api.Set
		gotos, leads := map[int]int{}, 0
		shifts := map[byte]int{}
		for s, to := range x.All(n) {
			leads++
			next = sets.Union(next, s.Set)
			for b := range sets.Bytes(s.Set) {
				shifts[b] = to
			}
			if s.Kind == api.SymSort {
				gotos[s.Sort] = to
			}
			if to < 0 || to >= x.States() {
				t.Errorf("P9.2: state %d leads to %d, of %d", n, to, x.States())
			}
		}
		if x.Leads(n) != leads || x.Next(n) != next {
			t.Errorf("P9.3: state %d: Leads %d, Next %s, want %d, %s", n, x.Leads(n), sets.Text(x.Next(n)), leads, sets.Text(next))
		}
		for b := range 256 {
			want, leads := shifts[byte(b)]
			if to, ok := x.Shift(n, byte(b)); to != want || ok != leads {
				t.Errorf("P9.2: Shift(%d, %d): %d %v, want %d %v", n, b, to, ok, want, leads)
			}
		}
		for _, sort := range sortNumbers(g) {
			want, leads := gotos[sort]
			if to, ok := x.Goto(n, sort); to != want || ok != leads {
				t.Errorf("P9.2: Goto(%d, %d): %d %v, want %d %v", n, sort, to, ok, want, leads)
			}
		}
		if t.Failed() {
			t.FailNow()
		}
	}
}

// example is the chapter's own G.
func example() api.Grammar {
	return read("S", "S = S S", "S = [ab]", "S = [bc]")
}

// The chapter's own examples.
func TestExamples(t *testing.T) {
	checkLines(t, "the chapter's G", example(),
		"0.0 1.0 2.0 / S>1 [a]>2 [b]>3 [c]>4 / ",
		"0.0 0.1 1.0 2.0 / S>5 [a]>2 [b]>3 [c]>4 / ",
		"1.1 /  / 1",
		"1.1 2.1 /  / 1 2",
		"2.1 /  / 2",
		"0.0 0.1 0.2 1.0 2.0 / S>5 [a]>2 [b]>3 [c]>4 / 0",
	)
	x := made(t, example())
	if x.States() != 6 || x.Start() != 0 || x.Leads(0) != 4 || x.Leads(2) != 0 || x.Next(0) != readSet("[a-c]") || x.Next(3) != (api.Set{}) {
		t.Errorf("P9.1, P9.3: %d %d %d %d %v %v", x.States(), x.Start(), x.Leads(0), x.Leads(2), x.Next(0), x.Next(3))
	}
}

// Productions and sorts of all kinds, each alone.
func TestStates(t *testing.T) {
	checkLines(t, "a byte", read("S", "S = [a]"), "0.0 / [a]>1 / ", "0.1 /  / 0")
	checkLines(t, "no symbols", read("S", "S ="), "0.0 /  / 0")
	checkLines(t, "no symbols, beside others", read("S A", "S = A [x] A", "A =", "A = [a]"),
		"0.0 1.0 2.0 / A>1 [a]>2 / 1", "0.1 / [x]>3 / ", "2.1 /  / 2", "0.2 1.0 2.0 / A>4 [a]>2 / 1", "0.3 /  / 0")
	checkLines(t, "a Start without a production", read("S"), " /  / ")
	checkLines(t, "a Start without a production, beside others", read("S A", "A = S", "A = [a]"), " /  / ")
	checkLines(t, "a Start that rejects alone", read("S", "S = [a] : reject", "S = : reject"), " /  / ")
	checkLines(t, "a Start that is not the first sort", read("S A B", "S = [a]", "A = B S", "B = [b]", "start A"),
		"1.0 2.0 / B>1 [b]>2 / ", "0.0 1.1 / S>3 [a]>4 / ", "2.1 /  / 2", "1.2 /  / 1", "0.1 /  / 0")
	checkLines(t, "a sort without productions", read("S A", "S = A [x]", "S = [a]"), "0.0 1.0 / A>1 [a]>2 / ", "0.1 / [x]>3 / ", "1.1 /  / 1", "0.2 /  / 0")
	checkLines(t, "a sort that rejects alone", read("S A", "S = A [x]", "A = [a] : reject"), "0.0 / A>1 / ", "0.1 / [x]>2 / ", "0.2 /  / 0")
	checkLines(t, "in itself at the left", read("S", "S = S [a]", "S = [b]"), "0.0 1.0 / S>1 [b]>2 / ", "0.1 / [a]>3 / ", "1.1 /  / 1", "0.2 /  / 0")
	checkLines(t, "in itself at the right", read("S", "S = [a] S", "S = [b]"), "0.0 1.0 / [a]>1 [b]>2 / ", "0.0 0.1 1.0 / S>3 [a]>1 [b]>2 / ", "1.1 /  / 1", "0.2 /  / 0")
	checkLines(t, "in itself in the middle", read("S", "S = [a] S [b]", "S ="), "0.0 1.0 / [a]>1 / 1", "0.0 0.1 1.0 / S>2 [a]>1 / 1", "0.2 / [b]>3 / ", "0.3 /  / 0")
	checkLines(t, "itself alone", read("S", "S = S"), "0.0 / S>1 / ", "0.1 /  / 0")
	checkLines(t, "itself three times", read("S", "S = S S S"), "0.0 / S>1 / ", "0.0 0.1 / S>2 / ", "0.0 0.1 0.2 / S>3 / ", "0.0 0.1 0.2 0.3 / S>3 / 0")
	checkLines(t, "a production twice", read("S", "S = [a] S", "S = [a] S", "S ="), "0.0 1.0 2.0 / [a]>1 / 2", "0.0 0.1 1.0 1.1 2.0 / S>2 [a]>1 / 2", "0.2 1.2 /  / 0 1")
	checkLines(t, "two sorts in each other", read("S A", "S = A [x]", "A = S [y]", "A = [a]"),
		"0.0 1.0 2.0 / S>1 A>2 [a]>3 / ", "1.1 / [y]>4 / ", "0.1 / [x]>5 / ", "2.1 /  / 2", "1.2 /  / 1", "0.2 /  / 0")
	checkLines(t, "what belongs, far on", read("S A B C", "S = A", "C = [c]", "B = C", "A = B", "C = S S"),
		"0.0 1.0 2.0 3.0 4.0 / S>1 A>2 B>3 C>4 [c]>5 / ", "0.0 1.0 2.0 3.0 4.0 4.1 / S>6 A>2 B>3 C>4 [c]>5 / ",
		"0.1 /  / 0", "3.1 /  / 3", "2.1 /  / 2", "1.1 /  / 1", "0.0 1.0 2.0 3.0 4.0 4.1 4.2 / S>6 A>2 B>3 C>4 [c]>5 / 4")
	checkLines(t, "what is not reached", read("S A", "A = [a] S", "S = [b]"), "1.0 / [b]>1 / ", "1.1 /  / 1")
	checkLines(t, "what belongs where it stands alone", read("S A B", "S = [x] A", "A = B [y]", "B ="),
		"0.0 / [x]>1 / ", "0.1 1.0 2.0 / A>2 B>3 / 2", "0.2 /  / 0", "1.1 / [y]>4 / ", "1.2 /  / 1")
	checkLines(t, "several that are complete", read("S A", "S = A", "S = A A", "A =", "S = A", "A ="),
		"0.0 1.0 2.0 3.0 4.0 / A>1 / 2 4", "0.1 1.1 2.0 3.1 4.0 / A>2 / 0 2 3 4", "1.2 /  / 1")
}

// Classes are of a state's own sets: what other states ask for splits none of them.
func TestClasses(t *testing.T) {
	checkLines(t, "all bytes", read("S", "S = [^] S"), "0.0 / [^]>1 / ", "0.0 0.1 / S>2 [^]>1 / ", "0.2 /  / 0")
	checkLines(t, "the first and the last byte", read("S", `S = [\x00]`, `S = [\xff]`), `0.0 1.0 / [\x00]>1 [\xff]>2 / `, "0.1 /  / 0", "1.1 /  / 1")
	checkLines(t, "all but one", read("S", `S = [^\x00]`, `S = [\x00]`), `0.0 1.0 / [\x00]>1 [^\x00]>2 / `, "1.1 /  / 1", "0.1 /  / 0")
	checkLines(t, "all, and one of them", read("S", "S = [^]", "S = [m]"), "0.0 1.0 / [^m]>1 [m]>2 / ", "0.1 /  / 0", "0.1 1.1 /  / 0 1")
	checkLines(t, "a part of another one", read("S", "S = [a-d]", "S = [bc]"), "0.0 1.0 / [ad]>1 [bc]>2 / ", "0.1 /  / 0", "0.1 1.1 /  / 0 1")
	checkLines(t, "by least bytes, not by productions", read("S", "S = [bz]", "S = [ay]", "S = [c]"),
		"0.0 1.0 2.0 / [ay]>1 [bz]>2 [c]>3 / ", "1.1 /  / 1", "0.1 /  / 0", "2.1 /  / 2")
	checkLines(t, "one set of two productions", read("S", "S = [ab] [x]", "S = [ab] [y]"), "0.0 1.0 / [ab]>1 / ", "0.1 1.1 / [x]>2 [y]>3 / ", "0.2 /  / 0", "1.2 /  / 1")
	checkLines(t, "one set of two productions, and a part of it of a third one", read("S", "S = [ab]", "S = [b]", "S = [ab]"),
		"0.0 1.0 2.0 / [a]>1 [b]>2 / ", "0.1 2.1 /  / 0 2", "0.1 1.1 2.1 /  / 0 1 2")
	checkLines(t, "sets that overlap in two states", read("S", "S = [a-c] [b-d]"), "0.0 / [a-c]>1 / ", "0.1 / [b-d]>2 / ", "0.2 /  / 0")
	checkLines(t, "sets that overlap in one state alone", read("S", "S = [x] [a-c]", "S = [y] [b-d]", "S = [xyz] [e]"),
		"0.0 1.0 2.0 / [x]>1 [y]>2 [z]>3 / ", "0.1 2.1 / [a-c]>4 [e]>5 / ", "1.1 2.1 / [b-d]>6 [e]>5 / ", "2.1 / [e]>5 / ", "0.2 /  / 0", "2.2 /  / 2", "1.2 /  / 1")
	checkLines(t, "three that overlap", read("S", "S = [a-d]", "S = [cdef]", "S = [adeg]"),
		"0.0 1.0 2.0 / [a]>1 [b]>2 [c]>3 [d]>4 [e]>5 [f]>6 [g]>7 / ", "0.1 2.1 /  / 0 2", "0.1 /  / 0", "0.1 1.1 /  / 0 1", "0.1 1.1 2.1 /  / 0 1 2", "1.1 2.1 /  / 1 2", "1.1 /  / 1", "2.1 /  / 2")
	checkLines(t, "across words of a set", read("S", `S = [?-@\x7f-\x80\xbf-\xc0]`, `S = [@\x80\xc0]`),
		`0.0 1.0 / [?\x7f\xbf]>1 [@\x80\xc0]>2 / `, "0.1 /  / 0", "0.1 1.1 /  / 0 1")
}

// Each byte alone leads on where a production of its own has it, and nowhere else.
func TestEachByte(t *testing.T) {
	g := api.Grammar{Sorts: []string{"S"}}
	for b := range 256 {
		g.Prods = append(g.Prods, api.Prod{Right: []api.Sym{set(string([]byte{byte(255 - b)}))}})
	}
	x := made(t, g)
	if x.States() != 257 || x.Leads(0) != 256 || x.Next(0) != sets.All() {
		t.Errorf("P9.1: %d states, %d leads", x.States(), x.Leads(0))
	}
	for b := range 256 {
		if to, ok := x.Shift(0, byte(b)); to != b+1 || !ok || !slices.Equal(x.Reduces(to), []int{255 - b}) {
			t.Errorf("P9.2: Shift(0, %d): %d %v", b, to, ok)
		}
		if to, ok := x.Shift(b+1, byte(b)); to != 0 || ok {
			t.Errorf("P9.2: Shift(%d, %d): %d %v", b+1, b, to, ok)
		}
	}
	for b := range 256 { // of one that has this byte alone
		x := made(t, api.Grammar{Sorts: []string{"S"}, Prods: []api.Prod{{Right: []api.Sym{set(string([]byte{byte(b)}))}}}})
		for c := range 256 {
			want := 0
			if c == b {
				want = 1
			}
			if to, ok := x.Shift(0, byte(c)); to != want || ok != (c == b) {
				t.Errorf("P9.2: of %d: Shift(0, %d): %d %v", b, c, to, ok)
			}
		}
	}
}

// States are numbered as they are met: by sorts, rising, then by classes, by rising least bytes; one that is met again has its old number.
func TestNumbers(t *testing.T) {
	checkLines(t, "sorts ahead of classes, though they stand behind them", read("S A B", "S = [a]", "S = B", "S = A"),
		"0.0 1.0 2.0 / A>1 B>2 [a]>3 / ", "2.1 /  / 2", "1.1 /  / 1", "0.1 /  / 0")
	checkLines(t, "the Start's own sort last", read("A B S", "S = B S", "S = A", "S = [x]", "start S"),
		"0.0 1.0 2.0 / A>1 B>2 [x]>3 / ", "1.1 /  / 1", "0.0 0.1 1.0 2.0 / A>1 B>2 S>4 [x]>3 / ", "2.1 /  / 2", "0.2 /  / 0")
	checkLines(t, "met again from another state", read("S A", "S = [a] A", "S = [b] A", "A = [c]", "A = [a]"),
		"0.0 1.0 / [a]>1 [b]>2 / ", "0.1 2.0 3.0 / A>3 [a]>4 [c]>5 / ", "1.1 2.0 3.0 / A>6 [a]>4 [c]>5 / ", "0.2 /  / 0", "3.1 /  / 3", "2.1 /  / 2", "1.2 /  / 1")
	checkLines(t, "met again in itself", read("S A", "S = [a] A", "A = [a] A", "A ="),
		"0.0 / [a]>1 / ", "0.1 1.0 2.0 / A>2 [a]>3 / 2", "0.2 /  / 0", "1.0 1.1 2.0 / A>4 [a]>3 / 2", "1.2 /  / 1")
	checkLines(t, "state by state, not the nearest first", read("S A B", "S = A [x]", "S = B [y]", "A = [a] [c]", "B = [b] [d]"),
		"0.0 1.0 2.0 3.0 / A>1 B>2 [a]>3 [b]>4 / ", "0.1 / [x]>5 / ", "1.1 / [y]>6 / ", "2.1 / [c]>7 / ", "3.1 / [d]>8 / ",
		"0.2 /  / 0", "1.2 /  / 1", "2.2 /  / 2", "3.2 /  / 3")
	checkLines(t, "unlike only in how far one item is", read("S", "S = [a] [a] [a]"), "0.0 / [a]>1 / ", "0.1 / [a]>2 / ", "0.2 / [a]>3 / ", "0.3 /  / 0")
	checkLines(t, "unlike only in one item more", read("S", "S = [ab] [x]", "S = [a] [x]"),
		"0.0 1.0 / [a]>1 [b]>2 / ", "0.1 1.1 / [x]>3 / ", "0.1 / [x]>4 / ", "0.2 1.2 /  / 0 1", "0.2 /  / 0")
}

// What may not be otherwise, and what rejects, changes nothing.
func TestLeftOut(t *testing.T) {
	plain := read("S A", "S = S A", "S = A", "A = [a-c]", "A =")
	want := lines(plain, made(t, plain))
	for what, g := range map[string]api.Grammar{
		"Prefer":         read("S A", "S = S A : prefer", "S = A", "A = [a-c] : prefer", "A = : prefer"),
		"Avoid":          read("S A", "S = S A : avoid", "S = A : avoid", "A = [a-c]", "A = : avoid"),
		"Forbid":         read("S A", "S = S A", "S = A", "A = [a-c]", "A =", "forbid 0 1 0", "forbid 0 1 1", "forbid 0 2 2", "forbid 1 1 3", "forbid 1 1 2", "forbid 0 2 3"),
		"Follow":         read("S A", "S = S A", "S = A", "A = [a-c]", "A =", "follow S [^]", "follow A [a]"),
		"what rejects":   read("S A", "S = S A", "S = A", "A = [a-c]", "A =", "A = [b] : reject", "S = [x] [y] : reject", "S = : reject", "A = : reject"),
		"what all roles": plain,
	} {
		if what == "what all roles" {
			g.Prods = slices.Clone(g.Prods)
			for i := range g.Prods {
				g.Prods[i].Role, g.Prods[i].From = api.RoleMore, 7*i
			}
		}
		if got := lines(g, made(t, g)); !slices.Equal(got, want) {
			t.Errorf("P9.1 to P9.3: with %s:\n%s\nwant\n%s", what, strings.Join(got, "\n"), strings.Join(want, "\n"))
		}
	}
	for role := api.RoleCons; role < api.RoleReject; role++ {
		g := read("S", "S = [a]", "S =")
		g.Prods[0].Role, g.Prods[1].Role = role, role
		checkLines(t, fmt.Sprint("role ", role), g, "0.0 1.0 / [a]>1 / 1", "0.1 /  / 0")
	}
	// Ahead of others it takes a number, that is all.
	checkLines(t, "what rejects, ahead of others", read("S A", "S = [x] : reject", "S = A", "A = [xa] : reject", "A = : reject", "A = [a]"), "1.0 4.0 / A>1 [a]>2 / ", "1.1 /  / 1", "4.1 /  / 4")
}

// refused are grammars that may not be, each for one reason.
func refused() map[string]api.Grammar {
	out := map[string]api.Grammar{"nothing": {}, "no sort": {Prods: example().Prods}}
	bend := func(what string, f func(g *api.Grammar)) {
		g := read("S A B", "S = A S", "S = [x]", "A =", "A = [a] A", "B = B")
		f(&g)
		out[what] = g
	}
	bend("two sorts of one name", func(g *api.Grammar) { g.Sorts[2] = "S" })
	bend("a sort without a name", func(g *api.Grammar) { g.Sorts[1] = "" })
	bend("a Start past the last sort", func(g *api.Grammar) { g.Start = 3 })
	bend("a Start below 0", func(g *api.Grammar) { g.Start = -1 })
	bend("a Left past the last sort", func(g *api.Grammar) { g.Prods[4].Left = 3 })
	bend("a Left below 0", func(g *api.Grammar) { g.Prods[0].Left = math.MinInt })
	bend("a symbol's sort past the last one", func(g *api.Grammar) { g.Prods[0].Right[1].Sort = 3 })
	bend("a symbol's sort below 0", func(g *api.Grammar) { g.Prods[3].Right[1].Sort = -1 })
	bend("a symbol of no kind", func(g *api.Grammar) { g.Prods[0].Right[0].Kind = 2 })
	bend("an empty set", func(g *api.Grammar) { g.Prods[1].Right[0].Set = api.Set{} })
	bend("a set that is a sort", func(g *api.Grammar) { g.Prods[1].Right[0].Sort = 1 })
	bend("a role that is none", func(g *api.Grammar) { g.Prods[1].Role = 12 })
	bend("a rejected sort", func(g *api.Grammar) { g.Prods[4].Role = api.RoleReject })
	bend("Prefer and Avoid", func(g *api.Grammar) { g.Prods[2].Prefer, g.Prods[2].Avoid = true, true })
	bend("a From below -1", func(g *api.Grammar) { g.Prods[2].From = -2 })
	bend("a Follow of nothing", func(g *api.Grammar) { g.Follow = []api.Follow{{}} })
	bend("a Forbid of nothing", func(g *api.Grammar) { g.Forbid = []api.Forbid{{}} })
	bend("31 symbols", func(g *api.Grammar) { g.Prods[4].Right = slices.Repeat([]api.Sym{sort(1)}, api.MaxRight+1) })
	bend("1001 productions", func(g *api.Grammar) { g.Prods = slices.Repeat(g.Prods[2:3], api.MaxProds+1) })
	bend("1001 sorts", func(g *api.Grammar) {
		for n := range api.MaxProds - 2 {
			g.Sorts = append(g.Sorts, "T"+strconv.Itoa(n))
		}
	})
	return out
}

func TestGrammar(t *testing.T) {
	for what, g := range refused() {
		if x, e := tables.Make(g); x != nil || e != api.ErrGrammar {
			t.Errorf("P9.1: Make of %s: %v %v", what, x, e)
		}
	}
}

// checkNothing asks that a state of which there is nothing to tell is told as such.
func checkNothing(t *testing.T, what string, x *tables.Tables, n int) {
	t.Helper()
	items, complete, next, leads := x.Items(n), x.Reduces(n), x.Next(n), x.Leads(n)
	if len(items) != 0 || len(complete) != 0 || next != (api.Set{}) || leads != 0 {
		t.Errorf("P9.4: %s: state %d: %v %v %v %d", what, n, items, complete, next, leads)
	}
	for _, b := range []byte{0, 'a', 'b', 255} {
		if to, ok := x.Shift(n, b); to != 0 || ok {
			t.Errorf("P9.4: %s: Shift(%d, %d): %d %v", what, n, b, to, ok)
		}
	}
	for _, sort := range sortNumbers(example()) {
		if to, ok := x.Goto(n, sort); to != 0 || ok {
			t.Errorf("P9.4: %s: Goto(%d, %d): %d %v", what, n, sort, to, ok)
		}
	}
	all := x.All(n)
	if all == nil {
		t.Fatalf("P9.4: %s: All(%d): no iterator", what, n)
	}
	for s, to := range all {
		t.Errorf("P9.4: %s: All(%d): %v %d", what, n, s, to)
	}
}

// No Tables: nil, of a grammar that is refused, and such as no call made.
func TestNoTables(t *testing.T) {
	refused, _ := tables.Make(api.Grammar{})
	for what, x := range map[string]*tables.Tables{"nil": nil, "refused": refused, "zero": {}} {
		if x.States() != 0 || x.Start() != 0 {
			t.Errorf("P9.4: %s: %d states, start %d", what, x.States(), x.Start())
		}
		for _, n := range []int{0, 1, -1, 5, math.MaxInt, math.MinInt} {
			checkNothing(t, what, x, n)
		}
	}
}

// States that there are not, and sorts.
func TestRange(t *testing.T) {
	x := made(t, example()) // checks sorts that there are not, too
	for _, n := range []int{-1, 6, 7, -6, 1 << 14, 1 << 32, 1<<32 + 1, -1 << 32, math.MaxInt, math.MinInt} {
		checkNothing(t, "the chapter's G", x, n)
	}
	g := read("S A B C", "S = A [a]", "S = C")
	x = made(t, g)
	for _, sort := range []int{0, 2, -1, 4, 5, 6, 7} { // by S and B it does not lead on, though they lie beside and between
		if to, ok := x.Goto(0, sort); to != 0 || ok {
			t.Errorf("P9.4: Goto(0, %d): %d %v", sort, to, ok)
		}
	}
	for sort, want := range map[int]int{1: 1, 3: 2} {
		if to, ok := x.Goto(0, sort); to != want || !ok {
			t.Errorf("P9.2: Goto(0, %d): %d %v, want %d", sort, to, ok, want)
		}
	}
	for _, sort := range []int{4, 5} { // numbers past the sorts are no classes
		if to, ok := x.Goto(1, sort); to != 0 || ok {
			t.Errorf("P9.4: Goto(1, %d): %d %v", sort, to, ok)
		}
	}
}

// wide is a grammar one of whose states leads on by many sorts and classes.
func wide() api.Grammar {
	return read("S A B C", "S = A B", "S = C", "S = S S", "A = [a-f]", "B = [b-e]", "B = [x]", "C = [cd] B", "A = B", "C =")
}

// All may be left early, at each place, gone over again, and by two at once.
func TestAll(t *testing.T) {
	x := made(t, wide())
	for n := range x.States() {
		var want []string
		for s, to := range x.All(n) {
			want = append(want, edgeText(wide(), s, to))
		}
		all := x.All(n)
		for stop := 1; stop <= len(want); stop++ {
			var got []string
			for s, to := range all {
				if got = append(got, edgeText(wide(), s, to)); len(got) == stop {
					break
				}
			}
			if !slices.Equal(got, want[:stop]) {
				t.Errorf("P9.2: All(%d) left behind %d: %v, want %v", n, stop, got, want[:stop])
			}
		}
		for range 2 {
			var got []string
			for s, to := range all {
				got = append(got, edgeText(wide(), s, to))
			}
			if !slices.Equal(got, want) {
				t.Errorf("P9.2: All(%d) again: %v, want %v", n, got, want)
			}
		}
		// One within the other, of one iterator.
		count := 0
		for s, to := range all {
			at := 0
			for s, to := range all {
				if edgeText(wide(), s, to) != want[at] {
					t.Errorf("P9.2: All(%d) in itself: %v %d, want %s", n, s, to, want[at])
				}
				at++
			}
			if edgeText(wide(), s, to) != want[count] || at != len(want) {
				t.Errorf("P9.2: All(%d) around itself: %v %d, want %s", n, s, to, want[count])
			}
			count++
		}
		// A yield that says no is not called again.
		calls := 0
		all(func(api.Sym, int) bool { calls++; return false })
		if calls != min(1, len(want)) {
			t.Errorf("P9.2: All(%d): called %d times", n, calls)
		}
	}
	if made(t, wide()).Leads(0) < 8 {
		t.Error(lines(wide(), x)[0])
	}
}

// Two at once that turn by turn go one step, and many at once.
func TestAllAtOnce(t *testing.T) {
	x := made(t, wide())
	all := x.All(0)
	first, stopFirst := iter.Pull2(all)
	second, stopSecond := iter.Pull2(all)
	defer stopFirst()
	defer stopSecond()
	for range x.Leads(0) + 2 {
		s, to, more := first()
		r, at, again := second()
		if s != r || to != at || more != again {
			t.Errorf("P9.2: two at once: %v %d %v, %v %d %v", s, to, more, r, at, again)
		}
	}
	want := lines(wide(), x)
	var group sync.WaitGroup
	for range 8 {
		group.Go(func() {
			for range 20 {
				if got := lines(wide(), x); !slices.Equal(got, want) {
					t.Errorf("P9.2: many at once: %v, want %v", got, want)
				}
				if y, e := tables.Make(wide()); e != api.OK || y.States() != x.States() {
					t.Errorf("P9.1: many at once: %v", e)
				}
			}
		})
	}
	group.Wait()
}

// frozen tells a grammar with spare room behind its lists, and what stands there.
func frozen(g api.Grammar) (api.Grammar, func() string) {
	g.Sorts = append(slices.Clone(g.Sorts), "spare", "spare")[:len(g.Sorts)]
	g.Prods = append(slices.Clone(g.Prods), api.Prod{Left: 7}, api.Prod{Left: 8})[:len(g.Prods)]
	for i, p := range g.Prods {
		g.Prods[i].Right = append(slices.Clone(p.Right), sort(7), sort(8))[:len(p.Right)]
	}
	g.Forbid = append(slices.Clone(g.Forbid), api.Forbid{Parent: 7})[:len(g.Forbid)]
	g.Follow = append(slices.Clone(g.Follow), api.Follow{Sort: 7})[:len(g.Follow)]
	return g, func() string {
		var rights [][]api.Sym
		for _, p := range g.Prods[:cap(g.Prods)] {
			rights = append(rights, p.Right[:cap(p.Right)])
		}
		return fmt.Sprint(g, g.Sorts[:cap(g.Sorts)], g.Prods[:cap(g.Prods)], rights, g.Forbid[:cap(g.Forbid)], g.Follow[:cap(g.Follow)])
	}
}

// full is a grammar with something of all.
func full() api.Grammar {
	return read("S A B C D", "S = A B [x]", "S = [ab] S : prefer", "A =", "A = [a] A : avoid", "B = A A", "B = [b]", "B = [b] [c] : reject", "C = D [c]", "D = C", "D = [d]", "A = : reject", "S = C",
		"forbid 0 2 5", "forbid 3 2 3", "follow A [a]", "follow S [^x]")
}

// What is handed in is not changed, spare room included, and not kept: what is done to it later changes no Tables.
func TestHandedIn(t *testing.T) {
	for _, g := range []api.Grammar{example(), full(), wide()} {
		frozen, state := frozen(g)
		before := state()
		x := made(t, frozen)
		want := lines(g, x)
		if after := state(); after != before {
			t.Errorf("what was handed in:\n%s, was\n%s", after, before)
		}
		for i, p := range frozen.Prods {
			for k := range p.Right {
				p.Right[k] = api.Sym{Set: sets.All()}
			}
			frozen.Prods[i] = api.Prod{Left: -1, Role: api.RoleReject}
		}
		for i := range frozen.Sorts {
			frozen.Sorts[i] = ""
		}
		checkAgrees(t, g, x)
		if got := lines(g, x); !slices.Equal(got, want) {
			t.Errorf("P9.1 to P9.3: after a change of what was handed in:\n%s\nwant\n%s", strings.Join(got, "\n"), strings.Join(want, "\n"))
		}
	}
}

// What is answered shares no memory with the Tables, nor with another answer.
func TestAnswersAreNew(t *testing.T) {
	for _, g := range []api.Grammar{example(), full(), wide()} {
		x, y := made(t, g), made(t, g)
		want := lines(g, x)
		for n := range x.States() {
			items, complete := x.Items(n), x.Reduces(n)
			moreItems, moreComplete := x.Items(n), x.Reduces(n)
			items, complete = items[:cap(items)], complete[:cap(complete)]
			for i := range items {
				items[i] = api.Item{Prod: 77, Dot: 77}
			}
			for i := range complete {
				complete[i] = 77
			}
			if !reflect.DeepEqual(moreItems, x.Items(n)) || !reflect.DeepEqual(moreComplete, x.Reduces(n)) {
				t.Errorf("P9.1, P9.3: state %d: other answers changed with one: %v %v", n, moreItems, moreComplete)
			}
		}
		checkAgrees(t, g, x)
		if !slices.Equal(lines(g, x), want) || !slices.Equal(lines(g, y), want) {
			t.Errorf("P9.1 to P9.3: the Tables changed with an answer: %s", strings.Join(lines(g, x), "\n"))
		}
	}
}
