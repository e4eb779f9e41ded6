package tables_test

import (
	"cmp"
	"maps"
	"math/rand"
	"slices"
	"strings"
	"testing"

	"rosetta/api"
	"rosetta/kernel"
	"rosetta/sets"
)

// held is a set of items.
type held map[api.Item]bool

// rising tells items by rising Prod, then Dot.
func (h held) rising() []api.Item {
	return slices.SortedFunc(maps.Keys(h), func(a, b api.Item) int {
		return cmp.Or(a.Prod-b.Prod, a.Dot-b.Dot)
	})
}

// model tells a grammar's states as the chapter's words tell them.
type model struct {
	g      api.Grammar
	states []held
}

// ahead tells the symbol ahead of which an item's Dot stands.
func (m *model) ahead(it api.Item) (api.Sym, bool) {
	right := m.g.Prods[it.Prod].Right
	if it.Dot == len(right) {
		return api.Sym{}, false
	}
	return right[it.Dot], true
}

// with adds all that belongs to items.
func (m *model) with(h held) held {
	for changed := true; changed; {
		changed = false
		for _, it := range h.rising() {
			s, more := m.ahead(it)
			for n, p := range m.g.Prods {
				new := api.Item{Prod: n}
				if more && s == sort(p.Left) && p.Role != api.RoleReject && !h[new] {
					h[new], changed = true, true
				}
			}
		}
	}
	return h
}

// behind tells the state that is made of the items whose Dot stands ahead of something.
func (m *model) behind(h held, is func(api.Sym) bool) held {
	out := held{}
	for it := range h {
		if s, more := m.ahead(it); more && is(s) {
			out[api.Item{Prod: it.Prod, Dot: it.Dot + 1}] = true
		}
	}
	return m.with(out)
}

// classes tells the classes of a state, by rising least bytes: bytes that are in some of its sets, together those that are in the same ones.
func (m *model) classes(h held) []api.Set {
	var out []api.Set
	var in [256]string
	for _, it := range h.rising() {
		s, _ := m.ahead(it)
		for b := range 256 {
			if sets.Has(s.Set, byte(b)) {
				in[b] += "1"
			} else {
				in[b] += "0"
			}
		}
	}
	for b, of := range in {
		if !strings.Contains(of, "1") || slices.Index(in[:], of) < b {
			continue
		}
		var class api.Set
		for c, others := range in {
			if others == of {
				class = sets.Union(class, sets.Of(byte(c)))
			}
		}
		out = append(out, class)
	}
	return out
}

// number tells the number of a state.
func (m *model) number(h held) int {
	for n, old := range m.states {
		if maps.Equal(h, old) {
			return n
		}
	}
	m.states = append(m.states, h)
	return len(m.states) - 1
}

// modelLines tells all states of a grammar; nothing, if there are more than most.
func modelLines(g api.Grammar, most int) []string {
	m := model{g: g}
	first := held{}
	for n, p := range g.Prods {
		if p.Left == g.Start && p.Role != api.RoleReject {
			first[api.Item{Prod: n}] = true
		}
	}
	m.number(m.with(first))
	var out []string
	for n := 0; n < len(m.states); n++ {
		h := m.states[n]
		var edges []string
		for sort := range g.Sorts {
			if to := m.behind(h, func(s api.Sym) bool { return s.Kind == api.SymSort && s.Sort == sort }); len(to) > 0 {
				edges = append(edges, edgeText(g, api.Sym{Kind: api.SymSort, Sort: sort}, m.number(to)))
			}
		}
		for _, class := range m.classes(h) {
			to := m.behind(h, func(s api.Sym) bool { return s.Kind == api.SymSet && sets.Within(class, s.Set) })
			edges = append(edges, edgeText(g, api.Sym{Set: class}, m.number(to)))
		}
		var complete []int
		for _, it := range h.rising() {
			if it.Dot == len(g.Prods[it.Prod].Right) {
				complete = append(complete, it.Prod)
			}
		}
		out = append(out, line(itemsText(h.rising()), edges, complete))
		if len(m.states) > most {
			return nil
		}
	}
	return out
}

func pick[T any](die *rand.Rand, l ...T) T { return l[die.Intn(len(l))] }

// randomSym tells a sort, or a set: of few bytes, or of any.
func randomSym(die *rand.Rand, sorts int) api.Sym {
	switch die.Intn(8) {
	case 0, 1, 2, 3:
		return sort(die.Intn(sorts))
	case 4:
		any := api.Set{die.Uint64(), die.Uint64(), die.Uint64(), die.Uint64()}
		for i := range any {
			any[i] &= pick(die, 0, 1, 1<<63, any[i], 1<<64-1)
		}
		if any != (api.Set{}) {
			return api.Sym{Set: any}
		}
	}
	return set(pick(die, "a", "b", "ab", "bc", "abcd", "\x00", "\xff", "\x00a\xff"))
}

// randomGrammar tells a grammar that may be, of at most so many sorts, productions, symbols.
func randomGrammar(die *rand.Rand, sorts, prods, symbols int) api.Grammar {
	g := api.Grammar{Sorts: []string{"S", "A", "B", "C", "D", "E", "F", "G"}[:1+die.Intn(sorts)]}
	g.Start = die.Intn(len(g.Sorts))
	for i := range 1 + die.Intn(prods) {
		p := api.Prod{Left: die.Intn(len(g.Sorts)), Role: api.Role(die.Intn(12)), From: -1}
		if i%4 == 0 && die.Intn(9) > 0 {
			p.Left, p.Role = g.Start, api.RoleCons
		}
		for range die.Intn(symbols + 1) {
			s := randomSym(die, len(g.Sorts))
			for p.Role == api.RoleReject && s.Kind == api.SymSort {
				s = randomSym(die, len(g.Sorts))
			}
			p.Right = append(p.Right, s)
		}
		g.Prods = append(g.Prods, p)
		if die.Intn(9) == 0 {
			g.Prods = append(g.Prods, p)
		}
	}
	return g
}

// checkModel asks that the states of a grammar are those of the model, and tells how many they are; 0 of more than most.
func checkModel(t *testing.T, g api.Grammar, most int) int {
	t.Helper()
	want := modelLines(g, most)
	if want == nil {
		return 0
	}
	x := made(t, g)
	if got := lines(g, x); !slices.Equal(got, want) {
		t.Fatalf("P9.1 to P9.3: start %s\n%s\n%s\nwant\n%s", g.Sorts[g.Start], kernel.Text(g), brief(strings.Join(got, "\n")), brief(strings.Join(want, "\n")))
	}
	checkFollows(t, g, x)
	return len(want)
}

// P9.1 to P9.3, P9.5: random grammars held against the model.
func TestAsModel(t *testing.T) {
	die := rand.New(rand.NewSource(9))
	var few, some, many int
	for i := range 2000 {
		switch n := checkModel(t, randomGrammar(die, 1+i%5, 3+i%16, 1+i%6), 150); {
		case n > 30:
			many++
		case n > 8:
			some++
		case n > 0:
			few++
		}
	}
	if few < 400 || some < 400 || many < 100 {
		t.Errorf("only %d with few states, %d with some, %d with many", few, some, many)
	}
}

// P9.1 to P9.3, P9.5: grammars of one and two productions in all ways.
func TestAllSmallGrammars(t *testing.T) {
	symbols := []api.Sym{sort(0), sort(1), set("a"), set("ab")}
	var prods []api.Prod
	for left := range 2 {
		rights := [][]api.Sym{nil}
		for _, x := range symbols {
			rights = append(rights, []api.Sym{x})
			for _, y := range symbols {
				rights = append(rights, []api.Sym{x, y})
			}
		}
		for _, right := range rights {
			prods = append(prods, api.Prod{Left: left, Right: right})
		}
	}
	for _, p := range prods {
		for _, q := range prods {
			checkModel(t, api.Grammar{Sorts: []string{"S", "A"}, Prods: []api.Prod{p, q}}, 1000)
		}
		checkModel(t, api.Grammar{Sorts: []string{"S", "A"}, Prods: []api.Prod{p}}, 1000)
	}
}
