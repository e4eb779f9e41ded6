package glr_test

import (
	"cmp"
	"maps"
	"math/rand"
	"slices"
	"strings"
	"testing"

	"rosetta/api"
	"rosetta/glr"
	"rosetta/kernel"
	"rosetta/sets"
	"rosetta/tables"
)

// stop is a state at a place.
type stop struct{ state, place int }

// hop is an edge: over a sort, or, by -1, over a byte.
type hop struct {
	from, to stop
	by       int
}

// plain is a text's stack as the chapter's words tell it: nodes and edges, searched till nothing is new.
type plain struct {
	g     api.Grammar
	x     *tables.Tables
	text  string
	nodes map[stop]bool
	hops  map[hop]bool
	outs  map[stop][]hop
}

// plainOf tells the stack of a text.
func plainOf(g api.Grammar, text string) *plain {
	x, e := tables.Make(g)
	if e != api.OK {
		panic(e)
	}
	first := stop{x.Start(), 0}
	m := &plain{g: g, x: x, text: text, nodes: map[stop]bool{first: true}, hops: map[hop]bool{}, outs: map[stop][]hop{}}
	for count := -1; count < len(m.hops)+len(m.nodes); {
		count = len(m.hops) + len(m.nodes)
		for _, n := range slices.Collect(maps.Keys(m.nodes)) {
			m.from(n)
		}
	}
	return m
}

// add adds an edge, and the node to which it leads.
func (m *plain) add(h hop) {
	if !m.hops[h] {
		m.hops[h], m.nodes[h.to] = true, true
		m.outs[h.from] = append(m.outs[h.from], h)
	}
}

// from adds all edges that lead from a node, by those that are there.
func (m *plain) from(n stop) {
	if n.place < len(m.text) {
		if to, leads := m.x.Shift(n.state, m.text[n.place]); leads {
			m.add(hop{n, stop{to, n.place + 1}, -1})
		}
	}
	for number, p := range m.g.Prods {
		to, leads := m.x.Goto(n.state, p.Left)
		if !leads || p.Role == api.RoleReject {
			continue
		}
		for _, end := range m.ends(n, len(p.Right)) {
			if slices.Contains(m.x.Reduces(end.state), number) {
				m.add(hop{n, stop{to, end.place}, p.Left})
			}
		}
	}
}

// ends tells the nodes that stand so many edges behind one.
func (m *plain) ends(n stop, edges int) []stop {
	l := map[stop]bool{n: true}
	for range edges {
		next := map[stop]bool{}
		for n := range l {
			for _, h := range m.outs[n] {
				next[h.to] = true
			}
		}
		l = next
	}
	return slices.Collect(maps.Keys(l))
}

// alts tells all alternatives, each once, as lines; rising as the chapter says.
func (m *plain) alts() []string {
	var out []api.Alt
	met := map[string]bool{}
	for number, p := range m.g.Prods {
		var walk func(from, at stop, cuts []int)
		walk = func(from, at stop, cuts []int) {
			if len(cuts) == len(p.Right) {
				a := api.Alt{Sort: p.Left, From: from.place, Until: at.place, Prod: number, Cuts: cuts}
				if text := altText(m.g, a); slices.Contains(m.x.Reduces(at.state), number) && !met[text] {
					met[text] = true
					out = append(out, a)
				}
				return
			}
			s := p.Right[len(cuts)]
			for _, h := range m.outs[at] {
				if s.Kind == api.SymSort && h.by == s.Sort || s.Kind == api.SymSet && h.by < 0 && sets.Has(s.Set, m.text[at.place]) {
					walk(from, h.to, append(slices.Clone(cuts), h.to.place))
				}
			}
		}
		for n := range m.nodes {
			if p.Role != api.RoleReject {
				walk(n, n, nil)
			}
		}
	}
	slices.SortFunc(out, func(a, b api.Alt) int {
		return cmp.Or(a.Sort-b.Sort, a.From-b.From, a.Until-b.Until, a.Prod-b.Prod, slices.Compare(a.Cuts, b.Cuts))
	})
	return altTexts(m.g, out)
}

// told is what the calls tell of a text.
type told struct {
	alts       []string
	steps, far int
	next       api.Set
	sorts      []int
}

// ways tells what the calls must tell by the stack.
func (m *plain) ways() told {
	out := told{alts: m.alts()}
	out.steps = len(m.hops) + len(out.alts)
	for n := range m.nodes {
		out.far = max(out.far, n.place)
	}
	sorts := map[int]bool{}
	for n := range m.nodes {
		if n.place == out.far {
			out.next = sets.Union(out.next, m.x.Next(n.state))
		}
		for s := range m.x.All(n.state) {
			if n.place == len(m.text) && s.Kind == api.SymSort {
				sorts[s.Sort] = true
			}
		}
	}
	out.sorts = slices.Sorted(maps.Keys(sorts))
	return out
}

// part is a sort from a place on, until another one.
type part struct{ sort, from, until int }

// deriver tells of a text what its parts can be, by the grammar alone, without states.
type deriver struct {
	g      api.Grammar
	text   string
	parts  map[part]bool // which sorts derive which spans
	begins map[part]bool // where which sorts may stand (Until is From)
}

// deriverOf tells all parts of a text, then where they may stand.
func deriverOf(g api.Grammar, text string) *deriver {
	d := &deriver{g, text, map[part]bool{}, map[part]bool{{g.Start, 0, 0}: true}}
	for count := -1; count < len(d.parts); {
		count = len(d.parts)
		for n, p := range g.Prods {
			for from := range len(text) + 1 {
				for _, cuts := range d.cuts(n, from, len(p.Right)) {
					d.parts[part{p.Left, from, slices.Max(append(cuts, from))}] = true
				}
			}
		}
	}
	for count := -1; count < len(d.begins); {
		count = len(d.begins)
		d.ahead(func(s api.Sym, at int) {
			if s.Kind == api.SymSort {
				d.begins[part{s.Sort, at, at}] = true
			}
		})
	}
	return d
}

// cuts tells in which ways the first symbols of a production derive what stands behind a place.
func (d *deriver) cuts(prod, from, symbols int) [][]int {
	if d.g.Prods[prod].Role == api.RoleReject {
		return nil
	}
	out := [][]int{nil}
	for _, s := range d.g.Prods[prod].Right[:symbols] {
		var next [][]int
		for _, cuts := range out {
			at := slices.Max(append(cuts, from))
			for until := at; until <= len(d.text); until++ {
				if s.Kind == api.SymSort && d.parts[part{s.Sort, at, until}] || s.Kind == api.SymSet && until == at+1 && sets.Has(s.Set, d.text[at]) {
					next = append(next, append(slices.Clone(cuts), until))
				}
			}
		}
		out = next
	}
	return out
}

// ahead tells of all symbols ahead of which some beginning of the text stands, where it does.
func (d *deriver) ahead(tell func(s api.Sym, at int)) {
	for n, p := range d.g.Prods {
		for from := range len(d.text) + 1 {
			if !d.begins[part{p.Left, from, from}] {
				continue
			}
			for i, s := range p.Right {
				for _, cuts := range d.cuts(n, from, i) {
					tell(s, slices.Max(append(cuts, from)))
				}
			}
		}
	}
}

// ways tells what the calls must tell by what derives what; but for the steps.
func (d *deriver) ways() told {
	var out told
	var alts []api.Alt
	for n, p := range d.g.Prods {
		for from := range len(d.text) + 1 {
			for _, cuts := range d.cuts(n, from, len(p.Right)) {
				if d.begins[part{p.Left, from, from}] {
					until := slices.Max(append(cuts, from))
					out.far = max(out.far, until)
					alts = append(alts, api.Alt{Sort: p.Left, From: from, Until: until, Prod: n, Cuts: cuts})
				}
			}
		}
	}
	slices.SortFunc(alts, func(a, b api.Alt) int {
		return cmp.Or(a.Sort-b.Sort, a.From-b.From, a.Until-b.Until, a.Prod-b.Prod, slices.Compare(a.Cuts, b.Cuts))
	})
	out.alts = altTexts(d.g, alts)
	d.ahead(func(_ api.Sym, at int) { out.far = max(out.far, at) })
	sorts := map[int]bool{}
	d.ahead(func(s api.Sym, at int) {
		if at == out.far {
			out.next = sets.Union(out.next, s.Set)
		}
		if at == len(d.text) && s.Kind == api.SymSort {
			sorts[s.Sort] = true
		}
	})
	out.sorts = slices.Sorted(maps.Keys(sorts))
	return out
}

// checkModels asks that what is told of a text is what both models tell, and tells how many steps there are.
func checkModels(t *testing.T, g api.Grammar, text string) int {
	t.Helper()
	w, e := glr.Run(g, text, plenty)
	sorts, e2 := glr.Sorts(g, text, plenty)
	if e != api.OK || e2 != api.OK {
		t.Fatalf("P10.1, P10.2: %v %v", e, e2)
	}
	got := told{altTexts(g, w.Alts), w.Steps, w.Far, w.Next, sorts}
	searched, derived := plainOf(g, text).ways(), deriverOf(g, text).ways()
	derived.steps = searched.steps
	for what, want := range map[string]told{"P10.1, P10.2: by nodes and edges": searched, "P10.4: by what derives what": derived} {
		if !slices.Equal(got.alts, want.alts) || got.steps != want.steps || got.far != want.far || got.next != want.next || !slices.Equal(got.sorts, want.sorts) {
			t.Fatalf("%s: %q, start %s\n%s\n%s\nwant\n%s", what, text, g.Sorts[g.Start], kernel.Text(g), brief(got), brief(want))
		}
	}
	return w.Steps
}

// textsOf tells all texts of some bytes, up to a length.
func textsOf(bytes string, length int) []string {
	out, last := []string{""}, []string{""}
	for range length {
		var next []string
		for _, text := range last {
			for _, b := range []byte(bytes) {
				next = append(next, text+string([]byte{b}))
			}
		}
		out, last = append(out, next...), next
	}
	return out
}

// P10.1, P10.2, P10.4: grammars of one and two productions, in all ways, and all short texts.
func TestAllSmallGrammars(t *testing.T) {
	symbols := []api.Sym{sort(0), sort(1), set("a"), set("ab")}
	var prods []api.Prod
	for left := range 2 {
		rights := [][]api.Sym{nil}
		for _, x := range symbols {
			rights = append(rights, []api.Sym{x})
			for _, y := range symbols {
				rights = append(rights, []api.Sym{x, y})
			}
		}
		for _, right := range rights {
			prods = append(prods, api.Prod{Left: left, Right: right, From: -1})
		}
	}
	texts := textsOf("ab", 3)
	check := func(l ...api.Prod) {
		for _, text := range texts {
			checkModels(t, api.Grammar{Sorts: []string{"S", "A"}, Prods: l}, text)
		}
	}
	for _, p := range prods {
		check(p)
		for _, q := range prods {
			check(p, q)
		}
	}
}

// P10.1, P10.2, P10.4: grammars of all that makes ways, with their parts left out one by one, and all short texts.
func TestPartsOfGrammars(t *testing.T) {
	lines := []string{"S = A S A", "S = S S", "S =", "S = [a]", "A = S", "A = [b] A", "A ="}
	texts := textsOf("ab", 3)
	for chosen := range 1 << len(lines) {
		var l []string
		for i, line := range lines {
			if chosen>>i&1 == 1 {
				l = append(l, line)
			}
		}
		g := read("S A", l...)
		for _, text := range texts {
			checkModels(t, g, text)
		}
	}
}

func pick[T any](die *rand.Rand, l ...T) T { return l[die.Intn(len(l))] }

// randomGrammar tells a grammar that may be, of at most so many sorts, and productions, of so many symbols; most of its sorts have a short text.
func randomGrammar(die *rand.Rand, sorts, prods, symbols int) api.Grammar {
	g := api.Grammar{Sorts: []string{"S", "A", "B", "C", "D", "E", "F", "G"}[:1+die.Intn(sorts)]}
	g.Start = die.Intn(len(g.Sorts))
	dense := 1 + die.Intn(4)
	add := func(left, symbols, dense int) {
		p := api.Prod{Left: left, Role: api.Role(die.Intn(11)), From: -1}
		if die.Intn(9) == 0 {
			p.Role = api.RoleReject
		}
		for range symbols {
			s := set(pick(die, "a", "a", "a", "ab", "ab", "b", "bc", "\x00a\xff"))
			if die.Intn(5) < dense && p.Role != api.RoleReject {
				s = sort(die.Intn(len(g.Sorts)))
			}
			p.Right = append(p.Right, s)
		}
		g.Prods = append(g.Prods, p)
		if die.Intn(9) == 0 {
			g.Prods = append(g.Prods, p)
		}
	}
	for n := range g.Sorts {
		if die.Intn(5) > 0 {
			add(n, die.Intn(2), 0)
		}
	}
	for range 1 + die.Intn(prods) {
		add(pick(die, g.Start, g.Start, die.Intn(len(g.Sorts))), 1+die.Intn(symbols), dense)
	}
	die.Shuffle(len(g.Prods), func(i, j int) { g.Prods[i], g.Prods[j] = g.Prods[j], g.Prods[i] })
	return g
}

// randomText tells a text in which most bytes are those that a grammar's texts may have there.
func randomText(die *rand.Rand, g api.Grammar, length int) string {
	var text []byte
	for range length {
		next, _, e := glr.Prefix(g, string(text), plenty)
		if e != api.OK {
			panic(e)
		}
		b := pick[byte](die, 'a', 'b', 'c', 0, 255)
		if bytes := slices.Collect(sets.Bytes(next)); len(bytes) > 0 && die.Intn(8) > 0 {
			b = pick(die, bytes...)
		}
		text = append(text, b)
	}
	return string(text)
}

// P10.1, P10.2, P10.4: random grammars and texts.
func TestAsModels(t *testing.T) {
	die := rand.New(rand.NewSource(10))
	var none, few, some, many int
	for i := range 8000 {
		g := randomGrammar(die, 1+i%3, 1+i%7, 1+i%4)
		text := randomText(die, g, i%8)
		switch n := checkModels(t, g, text); {
		case n > 60:
			many++
		case n > 15:
			some++
		case n > 0:
			few++
		default:
			none++
		}
		if i%4 == 0 {
			ran(t, g, text)
		}
	}
	if none > 2000 || few < 2000 || some < 500 || many < 200 {
		t.Errorf("%d without steps, %d with few, %d with some, %d with many", none, few, some, many)
	}
}

// P10.1, P10.2, P10.4: grammars of sorts that are nothing, in one another round and round: what is found late leads back to what was gone over.
func TestRoundAndRoundAsModels(t *testing.T) {
	checkModels(t, read("S A B", "A = B B", "B =", "S = S S S", "S = A"), "")
	checkModels(t, read("S A B C D E", "A = E E", "B = A E", "S =", "C = A E", "B = C C E", "S = C B", "E = S S", "E = A", "D = S D A", "A = C E E"), "")
	die := rand.New(rand.NewSource(106))
	for i := range 1500 {
		count := 2 + i%4
		g := api.Grammar{Sorts: []string{"S", "A", "B", "C", "D"}[:count]}
		for range 2 + die.Intn(2*count) {
			p := api.Prod{Left: die.Intn(count), From: -1}
			for range die.Intn(4) {
				p.Right = append(p.Right, sort(die.Intn(count)))
			}
			if die.Intn(6) == 0 {
				p.Right = append(p.Right, set("a"))
			}
			g.Prods = append(g.Prods, p)
		}
		checkModels(t, g, strings.Repeat("a", i%3))
	}
}

// P10.1: many symbols, of which many are nothing, over a text that can be cut in many ways.
func TestManyCuts(t *testing.T) {
	for symbols := range 8 {
		g := read("S A", "A =", "A = [a]", "S = "+strings.Repeat("A ", symbols), "S = [a] "+strings.Repeat("A ", symbols))
		for _, text := range textsOf("a", 5) {
			checkModels(t, g, text)
		}
	}
}
