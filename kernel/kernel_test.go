package kernel_test

import (
	"fmt"
	"reflect"
	"slices"
	"strconv"
	"strings"
	"testing"

	"rosetta/api"
	"rosetta/kernel"
	"rosetta/sets"
)

// The calls' signatures, as the chapter lists them.
var (
	_ func(api.Grammar) api.Errno                = kernel.Check
	_ func(api.Grammar) (api.Errno, int)         = kernel.Well
	_ func(api.Grammar, string) (int, bool)      = kernel.Find
	_ func(api.Grammar, int) ([]int, api.Errno)  = kernel.Of
	_ func(a, b api.Grammar) bool                = kernel.Same
	_ func(api.Grammar, api.Tree) api.Errno      = kernel.CheckTree
	_ func(api.Tree) (string, api.Errno)         = kernel.Yield
	_ func(api.Grammar) (api.Grammar, api.Errno) = kernel.Trim
	_ func(api.Grammar) string                   = kernel.Text
)

// brief tells a value, cut short.
func brief(v any) string {
	s := fmt.Sprintf("%+v", v)
	return s[:min(len(s), 600)]
}

func sort(n int) api.Sym { return api.Sym{Kind: api.SymSort, Sort: n} }

func set(bytes string) api.Sym { return api.Sym{Set: sets.Of([]byte(bytes)...)} }

// roles are the words that read takes for roles: RoleCons has none.
var roles = []string{"", "inject", "lexical", "literal", "none", "some", "one", "more", "gap", "layout", "start", "reject"}

// read tells the grammar of these lines: sorts by name, the first one the Start; each line a production as Text tells it, with a role and prefer or avoid behind a colon; or "forbid" and three numbers; or "follow", a sort and a set. From is the production's number, so that it is known again.
func read(sorts string, lines ...string) api.Grammar {
	g := api.Grammar{Sorts: strings.Fields(sorts)}
	for _, line := range lines {
		words := strings.Fields(line)
		switch words[0] {
		case "forbid":
			var l [3]int
			for i := range l {
				l[i], _ = strconv.Atoi(words[i+1])
			}
			g.Forbid = append(g.Forbid, api.Forbid{Parent: l[0], At: l[1], Child: l[2]})
		case "follow":
			g.Follow = append(g.Follow, api.Follow{Sort: slices.Index(g.Sorts, words[1]), Not: readSet(words[2])})
		default:
			g.Prods = append(g.Prods, readProd(g, words))
		}
	}
	return g
}

func readSet(text string) api.Set {
	s, e := sets.Read(text)
	if e != api.OK {
		panic(text)
	}
	return s
}

// readProd tells the production that words tell.
func readProd(g api.Grammar, words []string) api.Prod {
	p := api.Prod{From: len(g.Prods)}
	left, cons, _ := strings.Cut(words[0], ".")
	p.Left, p.Cons = slices.Index(g.Sorts, left), cons
	marks := false
	for _, w := range words[2:] {
		switch {
		case w == ":":
			marks = true
		case w == "prefer":
			p.Prefer = true
		case w == "avoid":
			p.Avoid = true
		case marks:
			p.Role = api.Role(slices.Index(roles, w))
		case w[0] == '[':
			p.Right = append(p.Right, api.Sym{Set: readSet(w)})
		default:
			p.Right = append(p.Right, sort(slices.Index(g.Sorts, w)))
		}
	}
	return p
}

// example is the chapter's own G.
func example() api.Grammar {
	return read("S A B", "S = A", "S = [x] S", "A = [a]", "B = B")
}

// byteTree tells the tree of a byte.
func byteTree(b byte) api.Tree { return api.Tree{Prod: -1, Byte: b} }

// node tells the tree of a production.
func node(prod int, kids ...api.Tree) api.Tree { return api.Tree{Prod: prod, Kids: kids} }

// The chapter's own examples.
func TestExamples(t *testing.T) {
	g := example()
	if e := kernel.Check(g); e != api.OK {
		t.Errorf("P6.1: Check: %v", e)
	}
	checkWell(t, g, api.ErrDead, 2)
	checkWell(t, read("S A", "S = A", "S = [x] S", "A = [a]"), api.OK, 0)
	if n, ok := kernel.Find(g, "A"); n != 1 || !ok {
		t.Errorf("P6.1: Find: %d %v", n, ok)
	}
	trimmed, e := kernel.Trim(g)
	if e != api.OK || !slices.Equal(trimmed.Sorts, []string{"S", "A"}) {
		t.Errorf("P6.3: Trim: %+v %v", trimmed, e)
	}
	tree := node(0, node(2, byteTree('a')))
	if e := kernel.CheckTree(g, tree); e != api.OK {
		t.Errorf("P6.2: CheckTree: %v", e)
	}
	if text, e := kernel.Yield(tree); text != "a" || e != api.OK {
		t.Errorf("P6.2: Yield: %q %v", text, e)
	}
}

// refused are grammars that may not be, with sorts and productions that could be asked for.
func refused() []api.Grammar {
	twice := read("S S", "S = [a]")
	start := example()
	start.Start = 3
	left := example()
	left.Prods[3].Left = 3
	follow := example()
	follow.Follow = []api.Follow{{}}
	return []api.Grammar{{}, {Prods: example().Prods}, twice, start, left, follow}
}

func TestFind(t *testing.T) {
	g := read("S <gap> ~[a]+ T")
	for name, want := range map[string]int{"S": 0, "<gap>": 1, "~[a]+": 2, "T": 3} {
		if n, ok := kernel.Find(g, name); n != want || !ok {
			t.Errorf("P6.1: Find(%q): %d %v, want %d", name, n, ok, want)
		}
	}
	for _, name := range []string{"", "s", "U", "S ", "SS", "~[a]", "\xff", strings.Repeat("S", 1<<20)} {
		if n, ok := kernel.Find(g, name); n != 0 || ok {
			t.Errorf("P6.1: Find(%q): %d %v", brief(name), n, ok)
		}
	}
	// No grammar is asked for more: what may not be has sorts, too.
	long := strings.Repeat("n", 2000)
	bad := api.Grammar{Sorts: []string{"S", "", "T", "S", long, "\xff"}, Start: -1, Prods: []api.Prod{{Left: 9}}, Follow: []api.Follow{{}}}
	for name, want := range map[string]int{"S": 0, "": 1, "T": 2, long: 4, "\xff": 5} {
		if n, ok := kernel.Find(bad, name); n != want || !ok {
			t.Errorf("P6.1: Find(%q): %d %v, want %d", brief(name), n, ok, want)
		}
	}
	if n, ok := kernel.Find(bad, "U"); n != 0 || ok {
		t.Errorf("P6.1: Find(U): %d %v", n, ok)
	}
	if n, ok := kernel.Find(api.Grammar{}, ""); n != 0 || ok {
		t.Errorf("P6.1: Find of nothing: %d %v", n, ok)
	}
}

func TestOf(t *testing.T) {
	g := read("S A B C", "S = A", "A = [a]", "S =", "B = B", "S = [a] : reject", "A = S A", "S.X = A : prefer")
	for of, want := range [][]int{{0, 2, 4, 6}, {1, 5}, {3}, nil} {
		if l, e := kernel.Of(g, of); !slices.Equal(l, want) || e != api.OK {
			t.Errorf("P6.1: Of(%d): %v %v, want %v", of, l, e, want)
		}
	}
	for _, of := range []int{-1, 4, 5, 1000, -1 << 63, 1<<63 - 1} {
		if l, e := kernel.Of(g, of); l != nil || e != api.ErrRange {
			t.Errorf("P6.1: Of(%d): %v %v", of, l, e)
		}
	}
	for i, bad := range refused() {
		for _, of := range []int{-1, 0, 1, 2, 3} { // ahead of ErrRange
			if l, e := kernel.Of(bad, of); l != nil || e != api.ErrGrammar {
				t.Errorf("P6.1: Of(%d) of %d: %v %v", of, i, l, e)
			}
		}
	}
}

// checkSame asks whether two grammars are the same, from both sides.
func checkSame(t *testing.T, a, b api.Grammar, want bool) {
	t.Helper()
	if kernel.Same(a, b) != want || kernel.Same(b, a) != want {
		t.Errorf("P6.1: Same(%s, %s) is not %v", brief(a), brief(b), want)
	}
}

func TestSame(t *testing.T) {
	fresh := func() api.Grammar {
		return read("S A B", "S.C = A [x] S : prefer", "S = A", "A = [a]", "A = [b] : reject", "forbid 0 1 2", "forbid 0 3 1", "follow S [a]", "follow A [b]")
	}
	checkSame(t, fresh(), fresh(), true)
	for i, bend := range bends() {
		g := fresh()
		bend(&g)
		again := fresh()
		bend(&again)
		checkSame(t, fresh(), g, false)
		checkSame(t, g, g, true)
		checkSame(t, g, again, true)
		if t.Failed() {
			t.Fatalf("bend %d", i)
		}
	}
	checkSame(t, api.Grammar{}, api.Grammar{}, true)
	// nil and empty mean the same.
	empty := api.Grammar{Sorts: []string{}, Prods: []api.Prod{}, Forbid: []api.Forbid{}, Follow: []api.Follow{}}
	checkSame(t, api.Grammar{}, empty, true)
	checkSame(t, read("S", "S ="), api.Grammar{Sorts: []string{"S"}, Prods: []api.Prod{{Right: []api.Sym{}}}, Forbid: []api.Forbid{}}, true)
	checkSame(t, read("S"), api.Grammar{}, false)
	checkSame(t, read("A B"), read("B A"), false)
	checkSame(t, read("A B"), read("A"), false)
	checkSame(t, read("AB C"), read("A BC"), false)
}

// bends change one field of a grammar each: three sorts, four productions, of which the first has three symbols, two Forbids, two Follows.
func bends() []func(g *api.Grammar) {
	return []func(g *api.Grammar){
		func(g *api.Grammar) { g.Sorts[1] = "D" },
		func(g *api.Grammar) { g.Sorts[2] = "" },
		func(g *api.Grammar) { g.Sorts[0], g.Sorts[1] = g.Sorts[1], g.Sorts[0] },
		func(g *api.Grammar) { g.Sorts = g.Sorts[:2] },
		func(g *api.Grammar) { g.Sorts = append(g.Sorts, "") },
		func(g *api.Grammar) { g.Start = 1 },
		func(g *api.Grammar) { g.Start = -1 },
		func(g *api.Grammar) { g.Prods = g.Prods[:3] },
		func(g *api.Grammar) { g.Prods = append(g.Prods, api.Prod{}) },
		func(g *api.Grammar) { g.Prods[2], g.Prods[3] = g.Prods[3], g.Prods[2] },
		func(g *api.Grammar) { g.Prods[2].Left = 2 },
		func(g *api.Grammar) { g.Prods[0].Right = g.Prods[0].Right[:2] },
		func(g *api.Grammar) { g.Prods[0].Right = append(g.Prods[0].Right, api.Sym{}) },
		func(g *api.Grammar) { g.Prods[0].Right[1].Kind = api.SymSort },
		func(g *api.Grammar) { g.Prods[0].Right[0].Kind = -1 },
		func(g *api.Grammar) { g.Prods[0].Right[0].Sort = 2 },
		func(g *api.Grammar) { g.Prods[0].Right[1].Sort = 1 },
		func(g *api.Grammar) { g.Prods[0].Right[1].Set[3] = 1 },
		func(g *api.Grammar) { g.Prods[0].Right[2].Set[0] = 1 },
		func(g *api.Grammar) {
			g.Prods[0].Right[0], g.Prods[0].Right[2] = g.Prods[0].Right[2], g.Prods[0].Right[0]
		},
		func(g *api.Grammar) { g.Prods[0].Cons = "D" },
		func(g *api.Grammar) { g.Prods[0].Cons = "" },
		func(g *api.Grammar) { g.Prods[3].Role = api.RoleGap },
		func(g *api.Grammar) { g.Prods[0].Prefer = false },
		func(g *api.Grammar) { g.Prods[1].Prefer = true },
		func(g *api.Grammar) { g.Prods[1].Avoid = true },
		func(g *api.Grammar) { g.Prods[3].From = -1 },
		func(g *api.Grammar) { g.Forbid[0].Parent = 1 },
		func(g *api.Grammar) { g.Forbid[1].At = 1 },
		func(g *api.Grammar) { g.Forbid[0].Child = 3 },
		func(g *api.Grammar) { g.Forbid[0], g.Forbid[1] = g.Forbid[1], g.Forbid[0] },
		func(g *api.Grammar) { g.Forbid = g.Forbid[:1] },
		func(g *api.Grammar) { g.Forbid = append(g.Forbid, api.Forbid{}) },
		func(g *api.Grammar) { g.Follow[0].Sort = 2 },
		func(g *api.Grammar) { g.Follow[1].Not[2] = 1 },
		func(g *api.Grammar) { g.Follow[0], g.Follow[1] = g.Follow[1], g.Follow[0] },
		func(g *api.Grammar) { g.Follow = nil },
		func(g *api.Grammar) { g.Follow = append(g.Follow, api.Follow{}) },
	}
}

func TestText(t *testing.T) {
	lines := []string{"S.Let = A [=] S", "S =", "A = [a-z]", `A = [^"] [\n] [\x20]`, "S.Z =", `"+" = [+]`, "<gap> = A A", "S = S"}
	g := read(`S A "+" <gap>`, lines...)
	if got, want := kernel.Text(g), strings.Join(lines, "\n")+"\n"; got != want {
		t.Errorf("P6.4: Text: %q, want %q", got, want)
	}
	check := func(g api.Grammar, want string) {
		t.Helper()
		if got := kernel.Text(g); got != want {
			t.Errorf("P6.4: Text(%s): %q, want %q", brief(g), got, want)
		}
	}
	check(read("S A", "A = S [b] : reject", "S ="), "") // a reject of a sort may not be
	check(read("S A", "A = [ab] [c] : reject", "A = S : inject avoid", "S = : none", "forbid 1 1 2", "follow A [x]"), "A = [ab] [c]\nA = S\nS =\n")
	check(read("S"), "")
	check(read("S", "S =", "S ="), "S =\nS =\n")
	check(read("S", "S.C ="), "S.C =\n")
	check(api.Grammar{Sorts: []string{"a b\n", "\xff="}, Prods: []api.Prod{{Left: 1, Right: []api.Sym{sort(0)}}}}, "\xff= = a b\n\n")
	for _, bad := range refused() {
		check(bad, "")
	}
	// A text above MaxText is told, too.
	long := strings.Repeat("n", 1000)
	check(api.Grammar{Sorts: []string{long}, Prods: slices.Repeat([]api.Prod{{Right: slices.Repeat([]api.Sym{sort(0)}, api.MaxRight)}}, api.MaxProds)},
		strings.Repeat(long+" ="+strings.Repeat(" "+long, api.MaxRight)+"\n", api.MaxProds))
}

// Nothing that is handed in is changed, its spare room neither; no list of an answer is one that was handed in, or another one of it.
func TestNewMemory(t *testing.T) {
	right := append([]api.Sym{sort(1), set("x"), sort(0)}, sort(9))[:3]
	fresh := func() api.Grammar {
		g := read("D S A B", "D = D", "S = A", "S = A", "A = [a]", "B = [b]", "S =", "A = D", "forbid 1 1 3", "forbid 2 1 3", "follow S [a]", "follow A [b]")
		g.Start = 1
		g.Prods[1].Right, g.Prods[2].Right = right, right
		g.Prods[1].Right[0], g.Prods[1].Right[2] = sort(2), sort(1)
		g.Sorts = append(g.Sorts, "Spare")[:4]
		g.Prods = append(g.Prods, api.Prod{Left: 77})[:7]
		g.Forbid = append(g.Forbid, api.Forbid{Parent: 77})[:2]
		g.Follow = append(g.Follow, api.Follow{Sort: 77})[:2]
		return g
	}
	g, same := fresh(), fresh()
	tree := node(1, append([]api.Tree{node(3, byteTree('a')), byteTree('x'), node(5)}, node(77))[:3]...)
	before := fmt.Sprint(spread(g), spread(tree), right[:4])
	first, e1 := kernel.Trim(g)
	second, e2 := kernel.Trim(g)
	of, e3 := kernel.Of(g, 1)
	again, e4 := kernel.Of(g, 1)
	_, e5 := kernel.Yield(tree)
	well, _ := kernel.Well(g)
	number, is := kernel.Find(g, "A")
	if e1 != api.OK || e2 != api.OK || e3 != api.OK || e4 != api.OK || e5 != api.OK || well != api.ErrDead || kernel.Check(g) != api.OK || kernel.CheckTree(g, tree) != api.OK || !kernel.Same(g, same) || kernel.Text(g) == "" || number != 2 || !is {
		t.Fatalf("P6.1: %v %v %v %v %v %v %d", e1, e2, e3, e4, e5, well, number)
	}
	if after := fmt.Sprint(spread(g), spread(tree), right[:4]); after != before {
		t.Errorf("P6.1: what was handed in has changed: %s, was %s", after, before)
	}
	seen := map[uintptr]string{}
	lists(reflect.ValueOf(g), func(at uintptr) { seen[at] = "handed in" })
	for i, answer := range []any{first, second, of, again} {
		lists(reflect.ValueOf(answer), func(at uintptr) {
			if was := seen[at]; was != "" {
				t.Errorf("P6.3: answer %d shares what is %s", i, was)
			}
			seen[at] = "in answer " + strconv.Itoa(i)
		})
	}
}

// lists tells the memory of all lists that stand in a value.
func lists(v reflect.Value, tell func(at uintptr)) {
	switch v.Kind() {
	case reflect.Slice:
		if v.Cap() > 0 {
			tell(v.Pointer())
		}
		fallthrough
	case reflect.Array:
		for i := range v.Len() {
			lists(v.Index(i), tell)
		}
	case reflect.Struct:
		for i := range v.NumField() {
			lists(v.Field(i), tell)
		}
	}
}

// spread tells a struct's fields, lists with the spare room behind them.
func spread(x any) []any {
	var out []any
	v := reflect.ValueOf(x)
	for i := range v.NumField() {
		f := v.Field(i)
		if f.Kind() == reflect.Slice {
			f = f.Slice3(0, f.Cap(), f.Cap())
		}
		out = append(out, f.Interface())
	}
	return out
}
