package facts_test

import (
	"fmt"
	"math/rand"
	"reflect"
	"slices"
	"strings"
	"testing"

	"rosetta/api"
	"rosetta/kernel"
	"rosetta/sets"
)

func pick[T any](die *rand.Rand, l ...T) T { return l[die.Intn(len(l))] }

// randomGrammar tells a small grammar that may be; every third one is tall: most symbols of a sort's productions are the next sort, so that texts are long.
func randomGrammar(die *rand.Rand, sorts, prods int) api.Grammar {
	g := api.Grammar{Sorts: []string{"S", "A", "B", "C", "D", "E", "F", "G"}[:1+die.Intn(sorts)]}
	count, tall := len(g.Sorts), die.Intn(3) == 0
	g.Start = die.Intn(count)
	for i := range die.Intn(prods + 1) {
		p := api.Prod{Left: die.Intn(count), Role: pick(die, api.RoleCons, api.RoleInject, api.RoleLexical, api.RoleMore, api.RoleMore, api.RoleReject), From: -1}
		symbols := die.Intn(4)
		if tall {
			p.Left, symbols = i%count, 2+die.Intn(2)
		}
		for range symbols {
			s := set(pick(die, "a", "b", "ab", "bc"))
			switch {
			case p.Role == api.RoleReject:
			case tall && p.Left+1 < count && die.Intn(6) > 0:
				s = sort(p.Left + 1)
			case die.Intn(3) > 0:
				s = sort(die.Intn(count))
			}
			p.Right = append(p.Right, s)
		}
		g.Prods = append(g.Prods, p)
	}
	return g
}

// states are those of a small machine that reads texts; pairs are those from and to which it is led by some text.
const states = 3

type pairs [states][states]bool

// then tells where one leads behind the other.
func (p pairs) then(q pairs) pairs {
	var out pairs
	for i := range states {
		for j := range states {
			for k := range states {
				out[i][k] = out[i][k] || p[i][j] && q[j][k]
			}
		}
	}
	return out
}

// or tells where one of both leads.
func (p pairs) or(q pairs) pairs {
	for i := range states {
		for j := range states {
			p[i][j] = p[i][j] || q[i][j]
		}
	}
	return p
}

func still() pairs { return pairs{{true}, {false, true}, {false, false, true}} }

// machine tells where each byte leads.
type machine func(b byte) pairs

// symbol tells where a symbol's texts lead, by what is known of sorts.
func (m machine) symbol(s api.Sym, sorts []pairs) pairs {
	if s.Kind == api.SymSort {
		return sorts[s.Sort]
	}
	var out pairs
	for b := range sets.Bytes(s.Set) {
		out = out.or(m(b))
	}
	return out
}

// texts tells, by sorts, where their texts lead.
func (m machine) texts(g api.Grammar) []pairs {
	out := make([]pairs, len(g.Sorts))
	for changed := true; changed; {
		changed = false
		for _, p := range g.Prods {
			if p.Role == api.RoleReject {
				continue
			}
			way := still()
			for _, s := range p.Right {
				way = way.then(m.symbol(s, out))
			}
			if new := out[p.Left].or(way); new != out[p.Left] {
				out[p.Left], changed = new, true
			}
		}
	}
	return out
}

// marked tells, by sorts, where the texts of trees lead in which one of a sort stands that is marked: its own text leads as mark tells. If proper, not the whole tree is the marked one.
func (m machine) marked(g api.Grammar, of int, mark pairs, proper bool) []pairs {
	plain, out := m.texts(g), make([]pairs, len(g.Sorts))
	within := func(p api.Prod) pairs {
		var ways pairs
		for i, s := range p.Right {
			if s.Kind == api.SymSet {
				continue
			}
			way := still()
			for k, s := range p.Right {
				if k == i {
					way = way.then(out[s.Sort])
				} else {
					way = way.then(m.symbol(s, plain))
				}
			}
			ways = ways.or(way)
		}
		return ways
	}
	out[of] = mark
	for changed := true; changed; {
		changed = false
		for _, p := range g.Prods {
			if new := out[p.Left].or(within(p)); p.Role != api.RoleReject && new != out[p.Left] {
				out[p.Left], changed = new, true
			}
		}
	}
	if proper {
		last := make([]pairs, len(g.Sorts))
		for _, p := range g.Prods {
			last[p.Left] = last[p.Left].or(within(p))
		}
		return last
	}
	return out
}

// leads tells of each sort whether the Start leads to it: over ways of rising length.
func leads(g api.Grammar) []bool {
	out := make([]bool, len(g.Sorts))
	out[g.Start] = true
	for range g.Sorts {
		for _, p := range g.Prods {
			for _, s := range p.Right {
				if out[p.Left] && p.Role != api.RoleReject && s.Kind == api.SymSort {
					out[s.Sort] = true
				}
			}
		}
	}
	return out
}

// modelSets tells First and Follow by machines, a byte a machine.
func modelSets(g api.Grammar, w *told) {
	w.First, w.Follow = make([]api.Set, len(g.Sorts)), make([]api.Set, len(g.Sorts))
	for b := range 256 {
		if b > 0 && b < 'a' || b > 'd' && b < 255 {
			continue // no set has it
		}
		begin := machine(func(c byte) pairs { // 1: it has begun with b
			return pairs{{false, c == byte(b)}, {false, true}}
		})
		behind := machine(func(c byte) pairs { // 0: ahead of the mark; 1: directly behind; 2: behind b
			return pairs{{true}, {false, false, c == byte(b)}, {false, false, true}}
		})
		texts, plain := begin.texts(g), behind.texts(g)
		for n := range g.Sorts {
			if texts[n][0][1] {
				w.First[n] = sets.Union(w.First[n], sets.Of(byte(b)))
			}
			mark := pairs{{false, plain[n][0][0]}}
			in := behind.marked(g, n, mark, false)[g.Start]
			if in[0][2] {
				w.Follow[n] = sets.Union(w.Follow[n], sets.Of(byte(b)))
			}
			if b == 0 {
				w.Ends[n] = in[0][1]
			}
		}
	}
}

// modelTexts tells Shortest and Sample: each sort's best text so far, till none is better.
func modelTexts(g api.Grammar, w *told) {
	best := make([]*string, len(g.Sorts))
	for changed := true; changed; {
		changed = false
		for _, p := range g.Prods {
			text, has := "", p.Role != api.RoleReject
			for _, s := range p.Right {
				if s.Kind == api.SymSet {
					text += string([]byte{sets.Ranges(s.Set)[0].From})
				} else if has = has && best[s.Sort] != nil; has {
					text += *best[s.Sort]
				}
			}
			old := best[p.Left]
			if has && (old == nil || len(text) < len(*old) || len(text) == len(*old) && text < *old) {
				best[p.Left], changed = &text, true
			}
		}
	}
	for n := range g.Sorts {
		length, text, e := -1, "", api.ErrDead
		if best[n] != nil {
			length, text, e = len(*best[n]), *best[n], api.OK
		}
		w.Shortest, w.Samples, w.Refused = append(w.Shortest, length), append(w.Samples, text), append(w.Refused, e)
	}
}

// model tells what must be told of a grammar.
func model(g api.Grammar) told {
	count := len(g.Sorts)
	w := told{Productive: make([]bool, count), Reached: leads(g), Nullable: make([]bool, count), Ends: make([]bool, count), Circular: make([]bool, count)}
	any := machine(func(byte) pairs { return pairs{{true}} }).texts(g)
	no := machine(func(byte) pairs { return pairs{} })
	none := no.texts(g)
	for n := range g.Sorts {
		w.Productive[n], w.Nullable[n] = any[n][0][0], none[n][0][0]
		w.Circular[n] = no.marked(g, n, pairs{{any[n][0][0]}}, true)[n][0][0]
	}
	modelSets(g, &w)
	modelTexts(g, &w)
	return w
}

// P8.1 to P8.3: random grammars held against a model.
func TestAsModel(t *testing.T) {
	die := rand.New(rand.NewSource(8))
	counts := map[string]int{}
	for i := range 16_000 {
		g := randomGrammar(die, 2+i%5, 3+i%10)
		got, want := all(t, g), model(g)
		if !reflect.DeepEqual(got, want) {
			t.Fatalf("P8.1 to P8.3: start %s\n%s\n%+v, want\n%+v", g.Sorts[g.Start], kernel.Text(g), got, want)
		}
		for n := range g.Sorts {
			for what, is := range map[string]bool{
				"dead": !got.Productive[n], "reached, in no tree": got.Reached[n] && !got.Ends[n] && got.Follow[n] == api.Set{}, "nullable": got.Nullable[n],
				"circular": got.Circular[n], "not circular": got.Productive[n] && !got.Circular[n], "ends and follows": got.Ends[n] && got.Follow[n] != api.Set{},
				"follows alone": !got.Ends[n] && got.Follow[n] != api.Set{}, "long": got.Shortest[n] > 3, "longer": got.Shortest[n] > 8,
			} {
				if is {
					counts[what]++
				}
			}
		}
	}
	for what, n := range counts {
		if n < 50 {
			t.Errorf("only %d: %s", n, what)
		}
	}
	if len(counts) != 9 {
		t.Errorf("%v", counts)
	}
}

// P8.1 to P8.3: grammars without productions that reject, of few sorts and productions in all ways.
func TestAllSmallGrammars(t *testing.T) {
	symbols := []api.Sym{set("a"), set("b"), sort(0), sort(1)}
	var prods []api.Prod
	for left := range 2 {
		prods = append(prods, api.Prod{Left: left})
		for _, x := range symbols {
			prods = append(prods, api.Prod{Left: left, Right: []api.Sym{x}})
			for _, y := range symbols {
				prods = append(prods, api.Prod{Left: left, Right: []api.Sym{x, y}})
			}
		}
	}
	check := func(l ...api.Prod) {
		g := api.Grammar{Sorts: []string{"S", "A"}, Prods: l}
		if got, want := all(t, g), model(g); !reflect.DeepEqual(got, want) {
			t.Fatalf("P8.1 to P8.3:\n%s\n%+v, want\n%+v", kernel.Text(g), got, want)
		}
	}
	check()
	for i, p := range prods {
		check(p)
		for _, q := range prods[:i] {
			check(q, p)
			check(p, q, p)
		}
	}
}

// spot is a tree's sort and where it stands.
type spot struct{ sort, from, until int }

// P8.3: long texts of one length, cut in many ways, held against a model.
func TestLongAsModel(t *testing.T) {
	die := rand.New(rand.NewSource(86))
	for range 300 {
		g := api.Grammar{Sorts: []string{"S", "A", "B", "C"}}
		count := len(g.Sorts)
		for n := range 13 { // each twice the next one: the first one has 4096 bytes
			g = withProd(g, fmt.Sprint("T", n), slices.Repeat([]api.Sym{sort(count + n + 1)}, 2)...)
		}
		g.Prods[12].Right = []api.Sym{set("ab")}
		for n := range count {
			var row []api.Sym
			for range 2 + die.Intn(3) {
				row = append(row, pick(die, set("b"), set("c"), sort(n+1), sort(count-1), sort(count), sort(count+1), sort(count+12)))
			}
			for range 3 {
				g.Prods = append(g.Prods, api.Prod{Left: n, Right: slices.Clone(row)})
				die.Shuffle(len(row), func(i, j int) { row[i], row[j] = row[j], row[i] })
			}
		}
		die.Shuffle(len(g.Prods), func(i, j int) { g.Prods[i], g.Prods[j] = g.Prods[j], g.Prods[i] })
		var want told
		modelTexts(g, &want)
		got := all(t, g)
		if !slices.Equal(got.Shortest, want.Shortest) || !slices.Equal(got.Refused, want.Refused) || !slices.Equal(got.Samples, want.Samples) {
			t.Fatalf("P8.3: %s\n%v %v, want\n%v %v", kernel.Text(g), got.Shortest, got.Refused, want.Shortest, want.Refused)
		}
	}
}

// shape is a tree: its text, and the trees that stand in it, itself first.
type shape struct {
	text  string
	spots []spot
}

// beside tells rows of trees, each of which stands behind each of others.
func beside(rows, more []shape) []shape {
	var out []shape
	for _, row := range rows {
		for _, kid := range more {
			l := slices.Clone(row.spots)
			for _, x := range kid.spots {
				l = append(l, spot{x.sort, x.from + len(row.text), x.until + len(row.text)})
			}
			out = append(out, shape{row.text + kid.text, l})
		}
	}
	return out
}

// treesOf tells, by sorts, all trees that are nested at most so deep, bytes not counted; and whether they are few.
func treesOf(g api.Grammar, deep int) ([][]shape, bool) {
	out := make([][]shape, len(g.Sorts))
	if deep == 0 {
		return out, true
	}
	flatter, few := treesOf(g, deep-1)
	for _, p := range g.Prods {
		if p.Role == api.RoleReject || !few {
			continue
		}
		rows := []shape{{}}
		for _, s := range p.Right {
			var kids []shape
			if s.Kind == api.SymSort {
				kids = flatter[s.Sort]
			}
			for b := range sets.Bytes(s.Set) {
				kids = append(kids, shape{text: string([]byte{b})})
			}
			if len(rows)*len(kids) > 300 {
				return nil, false
			}
			rows = beside(rows, kids)
		}
		for _, row := range rows {
			out[p.Left] = append(out[p.Left], shape{row.text, append([]spot{{p.Left, 0, len(row.text)}}, row.spots...)})
		}
	}
	return out, few
}

// shown tells what flat trees show of a grammar: no more than that is asked of what they show; and whether they are few.
func shown(g api.Grammar, deep int) (told, bool) {
	count := len(g.Sorts)
	w := told{Productive: make([]bool, count), Nullable: make([]bool, count), Circular: make([]bool, count), Ends: make([]bool, count), First: make([]api.Set, count), Follow: make([]api.Set, count), Samples: make([]string, count)}
	trees, few := treesOf(g, deep)
	if !few {
		return told{}, false
	}
	for n, l := range trees {
		for _, x := range l {
			if !w.Productive[n] || len(x.text) < len(w.Samples[n]) || len(x.text) == len(w.Samples[n]) && x.text < w.Samples[n] {
				w.Productive[n], w.Samples[n] = true, x.text
			}
			if x.text == "" {
				w.Nullable[n] = true
			} else {
				w.First[n] = sets.Union(w.First[n], sets.Of(x.text[0]))
			}
			w.Circular[n] = w.Circular[n] || slices.Contains(x.spots[1:], x.spots[0])
			for _, s := range x.spots {
				switch {
				case n != g.Start:
				case s.until == len(x.text):
					w.Ends[s.sort] = true
				default:
					w.Follow[s.sort] = sets.Union(w.Follow[s.sort], sets.Of(x.text[s.until]))
				}
			}
		}
	}
	return w, true
}

// P8.1 to P8.3: what trees show is told; and of grammars that have flat trees alone no more than that.
func TestAsTrees(t *testing.T) {
	die := rand.New(rand.NewSource(83))
	compared, whole := 0, 0
	for range 12_000 {
		g := randomGrammar(die, 4, 6)
		w, few := shown(g, 5)
		if !few {
			continue
		}
		compared++
		got := all(t, g)
		bad := false
		for n := range g.Sorts {
			for _, x := range [][2]bool{{w.Productive[n], got.Productive[n]}, {w.Nullable[n], got.Nullable[n]}, {w.Circular[n], got.Circular[n]}, {w.Ends[n], got.Ends[n]}} {
				bad = bad || x[0] && !x[1]
			}
			bad = bad || !sets.Within(w.First[n], got.First[n]) || !sets.Within(w.Follow[n], got.Follow[n])
			short := got.Samples[n]
			bad = bad || w.Productive[n] && (len(short) > len(w.Samples[n]) || len(short) == len(w.Samples[n]) && short > w.Samples[n])
		}
		if deeper, few := shown(g, 9); few && reflect.DeepEqual(deeper, w) && !slices.Contains(got.Circular, true) {
			whole++
			got.Reached, got.Shortest, got.Refused = nil, nil, nil
			bad = bad || !reflect.DeepEqual(got, w)
		}
		if bad {
			t.Fatalf("P8.1 to P8.3: start %s\n%s\n%+v, want\n%+v", g.Sorts[g.Start], kernel.Text(g), got, w)
		}
	}
	if compared < 2000 || whole < 1000 {
		t.Errorf("only %d compared, %d of them with flat trees alone", compared, whole)
	}
}

// isText tells whether a text is one of a sort: by its spans, till none is new.
func isText(g api.Grammar, of int, text string) bool {
	met := map[spot]bool{}
	var ends func(right []api.Sym, at int) []int
	ends = func(right []api.Sym, at int) []int {
		if len(right) == 0 {
			return []int{at}
		}
		var out []int
		for until := at; until <= len(text); until++ {
			s := right[0]
			if s.Kind == api.SymSet && until == at+1 && sets.Has(s.Set, text[at]) || s.Kind == api.SymSort && met[spot{s.Sort, at, until}] {
				out = append(out, ends(right[1:], until)...)
			}
		}
		return out
	}
	for changed := true; changed; {
		changed = false
		for _, p := range g.Prods {
			for from := 0; from <= len(text) && p.Role != api.RoleReject; from++ {
				for _, until := range ends(p.Right, from) {
					if x := (spot{p.Left, from, until}); !met[x] {
						met[x], changed = true, true
					}
				}
			}
		}
	}
	return met[spot{of, 0, len(text)}]
}

// checkFollows asks P8.4 of a grammar all of whose productions stand in trees of the Start: what may stand behind each symbol of a production is in its Follow.
func checkFollows(t *testing.T, g api.Grammar, a told) {
	t.Helper()
	for number, p := range g.Prods {
		for i, s := range p.Right {
			if s.Kind == api.SymSet || p.Role == api.RoleReject {
				continue
			}
			rest := p.Right[i+1:]
			for k, next := range rest {
				first := next.Set
				if next.Kind == api.SymSort {
					first = a.First[next.Sort]
				}
				if !sets.Within(first, a.Follow[s.Sort]) {
					t.Errorf("P8.4: symbol %d of production %d: %v is not in its Follow, %v\n%s", i+1, number, first, a.Follow[s.Sort], kernel.Text(g))
				}
				if next.Kind == api.SymSet || !a.Nullable[next.Sort] {
					rest = nil
					break
				}
				if k == len(rest)-1 && !sets.Within(a.Follow[p.Left], a.Follow[s.Sort]) {
					t.Errorf("P8.4: symbol %d of production %d: the Follow of %d is not in its\n%s", i+1, number, p.Left, kernel.Text(g))
				}
			}
		}
	}
}

// P8.4, of random grammars: samples are texts of their sorts, as long as Shortest tells; what is nullable is what has no shorter text; First and Follow agree.
func TestTogether(t *testing.T) {
	die := rand.New(rand.NewSource(84))
	samples, follows := 0, 0
	for i := range 10_000 {
		g := randomGrammar(die, 2+i%5, 4+i%8)
		a := all(t, g)
		for n := range g.Sorts {
			if a.Nullable[n] != (a.Shortest[n] == 0) || a.Productive[n] != (a.Shortest[n] >= 0) || a.Productive[n] != (a.Refused[n] == api.OK) {
				t.Fatalf("P8.4: %s: %+v\n%s", g.Sorts[n], a, kernel.Text(g))
			}
			if first := a.First[n] != (api.Set{}); first && !a.Productive[n] || !first && a.Shortest[n] > 0 {
				t.Fatalf("P8.4: %s: %+v\n%s", g.Sorts[n], a, kernel.Text(g))
			}
			text := a.Samples[n]
			if a.Refused[n] != api.OK || len(text) > 20 {
				continue
			}
			samples++
			if len(text) != a.Shortest[n] || !isText(g, n, text) || text != "" && !sets.Has(a.First[n], text[0]) {
				t.Fatalf("P8.4: %s: sample %q: %+v\n%s", g.Sorts[n], text, a, kernel.Text(g))
			}
		}
		if well, e := kernel.Trim(g); e == api.OK {
			follows++
			checkFollows(t, well, all(t, well))
		}
		if t.Failed() {
			return
		}
	}
	if samples < 4000 || follows < 2000 {
		t.Errorf("only %d samples, %d grammars without what is of no use", samples, follows)
	}
}

// The order of the productions, one that stands twice, and what is not asked for change nothing.
func TestOrder(t *testing.T) {
	die := rand.New(rand.NewSource(85))
	for i := range 2_000 {
		g := randomGrammar(die, 2+i%6, 3+i%12)
		want := all(t, g)
		for what, bend := range map[string]func(h *api.Grammar){
			"in another order": func(h *api.Grammar) {
				die.Shuffle(len(h.Prods), func(i, j int) { h.Prods[i], h.Prods[j] = h.Prods[j], h.Prods[i] })
			},
			"the last first": func(h *api.Grammar) { slices.Reverse(h.Prods) },
			"each twice":     func(h *api.Grammar) { h.Prods = append(h.Prods, h.Prods...) },
			"one twice": func(h *api.Grammar) {
				if n := len(h.Prods); n > 0 {
					h.Prods = slices.Insert(h.Prods, die.Intn(n+1), h.Prods[die.Intn(n)])
				}
			},
			"with what rejects": func(h *api.Grammar) {
				for n := range h.Sorts {
					h.Prods = slices.Insert(h.Prods, die.Intn(len(h.Prods)+1), api.Prod{Left: n, Right: []api.Sym{set("d"), set("abc")}[:die.Intn(3)], Role: api.RoleReject})
				}
			},
			"with what follows, is preferred, avoided": func(h *api.Grammar) {
				for n := range h.Sorts {
					h.Follow = append(h.Follow, api.Follow{Sort: n, Not: sets.All()})
				}
				for k := range h.Prods {
					h.Prods[k].Prefer = die.Intn(2) == 0
					h.Prods[k].Avoid = !h.Prods[k].Prefer
				}
			},
			"with all that may be forbidden": forbidAll,
			"with other names": func(h *api.Grammar) {
				for n := range h.Sorts {
					h.Sorts[n] = strings.Repeat(h.Sorts[n], 1000)
				}
			},
		} {
			h := g
			h.Prods, h.Sorts = slices.Clone(g.Prods), slices.Clone(g.Sorts)
			bend(&h)
			if got := all(t, h); kernel.Check(h) != api.OK || !reflect.DeepEqual(got, want) {
				t.Fatalf("P8.1 to P8.3: %s\n%s%s\n%+v, want\n%+v", what, kernel.Text(g), fmt.Sprint(h), got, want)
			}
		}
	}
}

// forbidAll forbids all that may be forbidden.
func forbidAll(g *api.Grammar) {
	for parent, p := range g.Prods {
		for i, s := range p.Right {
			for child, c := range g.Prods {
				if s.Kind == api.SymSort && s.Sort == c.Left && c.Role != api.RoleReject {
					g.Forbid = append(g.Forbid, api.Forbid{Parent: parent, At: i + 1, Child: child})
				}
			}
		}
	}
}

// numbered tells so many sorts and productions, from the first on or from the last one on.
func numbered(sorts int, turned bool, right func(sort int) [][]api.Sym) api.Grammar {
	var g api.Grammar
	for n := range sorts {
		g.Sorts = append(g.Sorts, fmt.Sprint("T", n))
		for _, r := range right(n) {
			g.Prods = append(g.Prods, api.Prod{Left: n, Right: r, From: -1})
		}
	}
	if turned {
		slices.Reverse(g.Prods)
	}
	return g
}

// every tells whether all of a list is the same.
func every[T comparable](l []T, is T) bool {
	return !slices.ContainsFunc(l, func(x T) bool { return x != is })
}

// As much as may be, whichever stands first: each call ends, with what is right.
func TestFull(t *testing.T) {
	const most = api.MaxProds
	ab := set("ab").Set
	for _, turned := range []bool{false, true} {
		// Each sort is 30 times the next one.
		g := numbered(most, turned, func(n int) [][]api.Sym {
			if n == most-1 {
				return [][]api.Sym{{set("ab")}}
			}
			return [][]api.Sym{slices.Repeat([]api.Sym{sort(n + 1)}, api.MaxRight)}
		})
		a := eight(t, g)
		if !every(a.Productive, true) || !every(a.Reached, true) || !every(a.Nullable, false) || !every(a.Circular, false) ||
			!every(a.Ends, true) || !every(a.First, ab) || !every(a.Follow[1:], ab) || !every(a.Shortest[:most-5], api.MaxText+1) {
			t.Errorf("P8.1 to P8.3: each 30 times the next one: %s", brief(a))
		}
		// Each sort is the next one, and the last one the first.
		g = numbered(most, turned, func(n int) [][]api.Sym {
			if n == most/2 {
				return [][]api.Sym{{set("ab")}}
			}
			return [][]api.Sym{{sort((n + 1) % most)}}
		})
		a = eight(t, g)
		if !every(a.Productive, true) || !every(a.Reached[:most/2+1], true) || !every(a.Reached[most/2+1:], false) || !every(a.Circular, false) ||
			!every(a.Ends[:most/2+1], true) || !every(a.Ends[most/2+1:], false) || !every(a.First, ab) || !every(a.Shortest, 1) {
			t.Errorf("P8.1 to P8.3: each the next one: %s", brief(a))
		}
		// Each sort is many of the others, all of which may be nothing.
		g = numbered(most/2, turned, func(n int) [][]api.Sym {
			var row []api.Sym
			for k := range api.MaxRight {
				row = append(row, sort((n+k*k+1)%(most/2)))
			}
			return [][]api.Sym{row, nil}
		})
		a = eight(t, g)
		if !every(a.Productive, true) || !every(a.Reached, true) || !every(a.Nullable, true) || !every(a.Circular, true) ||
			!every(a.Ends, true) || !every(a.First, api.Set{}) || !every(a.Follow, api.Set{}) || !every(a.Shortest, 0) {
			t.Errorf("P8.1 to P8.3: each many of the others: %s", brief(a))
		}
		// Each sort is what is behind it, so that there is no way back.
		g = numbered(most, turned, func(n int) [][]api.Sym {
			var row []api.Sym
			for k := 1; k <= api.MaxRight && n+k*k < most; k++ {
				row = append(row, sort(n+k*k))
			}
			return [][]api.Sym{row}
		})
		a = eight(t, g)
		if !every(a.Nullable, true) || !every(a.Reached, true) || !every(a.Circular, false) || !every(a.Shortest, 0) {
			t.Errorf("P8.1 to P8.3: each what is behind it: %s", brief(a))
		}
	}
}
