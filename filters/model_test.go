package filters_test

import (
	"fmt"
	"math/rand"
	"slices"
	"strings"
	"testing"

	"rosetta/api"
	"rosetta/filters"
	"rosetta/forest"
	"rosetta/kernel"
	"rosetta/sets"
)

// place is a node.
type place struct{ sort, from, until int }

// plain is a list of alternatives that loses some, step for step, as the chapter's words say it.
type plain struct {
	g    api.Grammar
	text string
	alts []api.Alt
	why  []api.Gone
}

func plainOf(g api.Grammar, text string, alts []api.Alt) *plain {
	m := &plain{g: g, text: text, alts: alts, why: make([]api.Gone, len(alts))}
	m.lose(api.GoneReject, func(a api.Alt) bool { return m.isRejected(a.Sort, text[a.From:a.Until]) })
	m.lose(api.GoneFollow, func(a api.Alt) bool { return m.isFollowed(a.Sort, a.Until) })
	left := m.left()
	alive := m.alive(left)
	m.lose(api.GoneDead, func(a api.Alt) bool { return !m.hasKids(a, left, alive) })
	left = m.left()
	m.lose(api.GonePrefer, func(a api.Alt) bool {
		return !g.Prods[a.Prod].Prefer && slices.ContainsFunc(left, func(b api.Alt) bool { return placeOf(a) == placeOf(b) && g.Prods[b.Prod].Prefer })
	})
	left = m.left()
	m.lose(api.GoneAvoid, func(a api.Alt) bool {
		return g.Prods[a.Prod].Avoid && slices.ContainsFunc(left, func(b api.Alt) bool { return placeOf(a) == placeOf(b) && !g.Prods[b.Prod].Avoid })
	})
	return m
}

func placeOf(a api.Alt) place { return place{a.Sort, a.From, a.Until} }

// left tells what is left.
func (m *plain) left() []api.Alt {
	var out []api.Alt
	for i, a := range m.alts {
		if m.why[i] == api.GoneNot {
			out = append(out, a)
		}
	}
	return out
}

// lose takes a step.
func (m *plain) lose(why api.Gone, goes func(a api.Alt) bool) {
	for i, a := range m.alts {
		if m.why[i] == api.GoneNot && goes(a) {
			m.why[i] = why
		}
	}
}

func (m *plain) isRejected(sort int, text string) bool {
	for _, p := range m.g.Prods {
		if p.Role != api.RoleReject || p.Left != sort || len(p.Right) != len(text) {
			continue
		}
		fits := 0
		for i := range len(text) {
			if sets.Has(p.Right[i].Set, text[i]) {
				fits++
			}
		}
		if fits == len(text) {
			return true
		}
	}
	return false
}

func (m *plain) isFollowed(sort, until int) bool {
	for _, f := range m.g.Follow {
		if f.Sort == sort && until < len(m.text) && sets.Has(f.Not, m.text[until]) {
			return true
		}
	}
	return false
}

// alive tells which alternatives of a list have a tree over it: one that is not nested deeper than the list is long.
func (m *plain) alive(list []api.Alt) []bool {
	alive := make([]bool, len(list))
	for range list {
		next := make([]bool, len(list))
		for i, b := range list {
			next[i] = m.hasKids(b, list, alive)
		}
		alive = next
	}
	return alive
}

// hasKids tells whether there is something alive for each of an alternative's symbols.
func (m *plain) hasKids(a api.Alt, list []api.Alt, alive []bool) bool {
	from := a.From
	for k, s := range m.g.Prods[a.Prod].Right {
		found := s.Kind == api.SymSet
		for i, b := range list {
			forbidden := slices.Contains(m.g.Forbid, api.Forbid{Parent: a.Prod, At: k + 1, Child: b.Prod})
			found = found || alive[i] && placeOf(b) == place{s.Sort, from, a.Cuts[k]} && !forbidden
		}
		if !found {
			return false
		}
		from = a.Cuts[k]
	}
	return true
}

// checkModel asks that Filter and Why tell of a list what is told plainly, and what follows by itself; and tells why the alternatives went.
func checkModel(t *testing.T, g api.Grammar, text string, alts []api.Alt) []api.Gone {
	t.Helper()
	about := func() string {
		return fmt.Sprintf("%q\n%s%+v\n%v %v\n%s", text, kernel.Text(g), g.Prods, g.Forbid, g.Follow, strings.Join(altTexts(alts), "\n"))
	}
	m := plainOf(g, text, alts)
	why, e := filters.Why(g, text, alts)
	if e != api.OK || !slices.Equal(why, m.why) {
		t.Fatalf("P12.1: Why: %s %v, want %s: %s", letters(why), e, letters(m.why), about())
	}
	left, e := filters.Filter(g, text, alts)
	if e != api.OK || slices.CompareFunc(left, m.left(), compareAlts) != 0 {
		t.Fatalf("P12.1: Filter: %v %v, want %v: %s", altTexts(left), e, altTexts(m.left()), about())
	}
	checkFollows(t, g, text, alts, why, left, about)
	checkSingle(t, m)
	return why
}

// checkFollows asks what follows of what is left by itself (P12.3).
func checkFollows(t *testing.T, g api.Grammar, text string, alts []api.Alt, why []api.Gone, left []api.Alt, about func() string) {
	t.Helper()
	again, e := filters.Filter(g, text, left)
	if e != api.OK || len(again) > len(left) {
		t.Fatalf("P12.3: Filter of what is left: %v %v: %s", altTexts(again), e, about())
	}
	kept := map[place]bool{}
	for _, a := range left {
		kept[placeOf(a)] = true
	}
	for i, a := range alts {
		if why[i] > api.GoneDead && !kept[placeOf(a)] {
			t.Fatalf("P12.3: nothing is kept of %v: %s", placeOf(a), about())
		}
	}
	plainly := len(g.Forbid)+len(g.Follow) == 0 && !slices.ContainsFunc(g.Prods, func(p api.Prod) bool {
		return p.Role == api.RoleReject || p.Prefer || p.Avoid
	})
	alive, e := forest.Alive(g, alts)
	for i, is := range alive {
		if e != api.OK || plainly && (why[i] != api.GoneNot) == is || plainly && !is && why[i] != api.GoneDead {
			t.Fatalf("P12.3: alive: %v, Why: %s: %s", alive, letters(why), about())
		}
	}
}

// checkSingle asks Rejected and Followed of all sorts and all places of a text.
func checkSingle(t *testing.T, m *plain) {
	t.Helper()
	for sort := range m.g.Sorts {
		for until := range len(m.text) + 1 {
			if is, e := filters.Followed(m.g, sort, m.text, until); is != m.isFollowed(sort, until) || e != api.OK {
				t.Fatalf("P12.2: Followed of %d at %d of %q: %v %v: %v", sort, until, m.text, is, e, m.g.Follow)
			}
			for from := range until + 1 {
				if is, e := filters.Rejected(m.g, sort, m.text[from:until]); is != m.isRejected(sort, m.text[from:until]) || e != api.OK {
					t.Fatalf("P12.2: Rejected of %d and %q: %v %v: %v", sort, m.text[from:until], is, e, m.g.Prods)
				}
			}
		}
	}
}

func pick[T any](die *rand.Rand, l ...T) T { return l[die.Intn(len(l))] }

// textsOf tells all texts of some bytes, up to a length.
func textsOf(bytes string, length int) []string {
	out, last := []string{""}, []string{""}
	for range length {
		var next []string
		for _, text := range last {
			for _, b := range []byte(bytes) {
				next = append(next, text+string([]byte{b}))
			}
		}
		out, last = append(out, next...), next
	}
	return out
}

// allAlts tells all alternatives that a list of a grammar and a text may have, in order: those too that no way leads to.
func allAlts(g api.Grammar, text string) []api.Alt {
	var out []api.Alt
	for number, p := range g.Prods {
		var walk func(from, at int, cuts []int)
		walk = func(from, at int, cuts []int) {
			if len(cuts) == len(p.Right) {
				out = append(out, api.Alt{Sort: p.Left, From: from, Until: at, Prod: number, Cuts: slices.Clone(cuts)})
				return
			}
			for next := at; next <= len(text); next++ {
				if s := p.Right[len(cuts)]; s.Kind == api.SymSort || next == at+1 && sets.Has(s.Set, text[at]) {
					walk(from, next, append(slices.Clone(cuts), next))
				}
			}
		}
		for from := 0; from <= len(text) && p.Role != api.RoleReject; from++ {
			walk(from, from, nil)
		}
	}
	slices.SortFunc(out, compareAlts)
	return out
}

// someOf tells some of a list, about so many in a hundred.
func someOf[T any](die *rand.Rand, l []T, percent int) []T {
	var out []T
	for _, x := range l {
		if die.Intn(100) < percent {
			out = append(out, x)
		}
	}
	return out
}

// allForbids tells all that may be forbidden in a grammar.
func allForbids(g api.Grammar) []api.Forbid {
	var out []api.Forbid
	for parent, p := range g.Prods {
		for i, s := range p.Right {
			for child, q := range g.Prods {
				f := api.Forbid{Parent: parent, At: i + 1, Child: child}
				if s.Kind == api.SymSort && q.Left == s.Sort && p.Role != api.RoleReject && q.Role != api.RoleReject {
					out = append(out, f)
				}
			}
		}
	}
	return out
}

// randomSet tells a set of a few bytes.
func randomSet(die *rand.Rand) api.Set {
	return set(pick(die, "a", "a", "b", "ab", "ab", "\x00a\xff", "\x00", "\xffb")).Set
}

// randomGrammar tells a grammar that may be, of at most so many sorts, and productions, of so many symbols; most of its sorts have a short text; some of it is rejected, forbidden, preferred, avoided, may not be followed.
func randomGrammar(die *rand.Rand, sorts, prods, symbols int) api.Grammar {
	g := api.Grammar{Sorts: []string{"S", "A", "B", "C", "D"}[:1+die.Intn(sorts)]}
	dense, choosy := 1+die.Intn(5), pick(die, 0, 2, 5)
	add := func(left, symbols, dense int, role api.Role) {
		p := api.Prod{Left: left, From: -1, Role: role}
		p.Prefer = die.Intn(10) < choosy
		p.Avoid = !p.Prefer && die.Intn(10) < choosy
		for range symbols {
			s := api.Sym{Set: randomSet(die)}
			if die.Intn(5) < dense && role != api.RoleReject {
				s = sort(die.Intn(len(g.Sorts)))
			}
			p.Right = append(p.Right, s)
		}
		g.Prods = append(g.Prods, p)
	}
	for n := range g.Sorts {
		if die.Intn(5) > 0 {
			add(n, die.Intn(2), 0, api.RoleCons)
		}
	}
	for range 1 + die.Intn(prods) {
		add(die.Intn(len(g.Sorts)), 1+die.Intn(symbols), dense, api.RoleInject)
	}
	for range pick(die, 0, 0, 1, 2) {
		add(die.Intn(len(g.Sorts)), die.Intn(4), 0, api.RoleReject)
	}
	die.Shuffle(len(g.Prods), func(i, j int) { g.Prods[i], g.Prods[j] = g.Prods[j], g.Prods[i] })
	g.Forbid = someOf(die, allForbids(g), pick(die, 0, 0, 15, 40))
	for _, n := range someOf(die, die.Perm(len(g.Sorts)), pick(die, 0, 0, 30, 60)) {
		g.Follow = append(g.Follow, api.Follow{Sort: n, Not: randomSet(die)})
	}
	return g
}

// tally counts why alternatives went.
type tally [api.GoneAvoid + 1]int

func (l *tally) add(why []api.Gone) {
	for _, w := range why {
		l[w]++
	}
}

// checkAtLeast asks that so many went by each step.
func (l *tally) checkAtLeast(t *testing.T, n int) {
	t.Helper()
	if slices.Min(l[:]) < n {
		t.Errorf("went by each step: %v", *l)
	}
}

// P12.1 to P12.3: a grammar of all by which something goes, its parts left out one by one; all short texts; all their ways.
func TestPartsOfGrammars(t *testing.T) {
	lines := []string{"S = S S", "S = [a] : prefer", "S = A : avoid", "A = [ab]", "A = [a] [b] : avoid", "A = S", "S = [ab]", "A = [b] : reject", "S = [a] [a] : reject", "follow A [a]"}
	var went tally
	for chosen := range 1 << len(lines) {
		var l []string
		for i, line := range lines {
			if chosen>>i&1 == 1 {
				l = append(l, line)
			}
		}
		g := read("S A", l...)
		for _, text := range textsOf("ab", 3) {
			went.add(checkModel(t, g, text, waysOf(t, g, text)))
		}
	}
	went.checkAtLeast(t, 1000)
}

// P12.1 to P12.3: random grammars, short texts, and lists of all kinds: all ways, all alternatives, some of them.
func TestAsModel(t *testing.T) {
	die := rand.New(rand.NewSource(121))
	var went tally
	for i := range 40000 {
		g := randomGrammar(die, 1+i%3, 1+i%6, 1+i%4)
		text := pick(die, textsOf(pick(die, "ab", "ab", "a\x00", "b\xff"), i%4)...)
		alts := allAlts(g, text)
		switch i % 3 {
		case 0:
			alts = waysOf(t, g, text)
		case 1:
			alts = someOf(die, alts, 60+die.Intn(40))
		}
		if len(alts) > 60 {
			alts = someOf(die, alts, 6000/len(alts))
		}
		went.add(checkModel(t, g, text, alts))
	}
	went.checkAtLeast(t, 1000)
}

// mayBe tells whether no tree in a tree is rejected or followed, and where it ends.
func (m *plain) mayBe(t api.Tree, from int) (bool, int) {
	if t.Prod < 0 {
		return true, from + 1
	}
	may, at := true, from
	for _, k := range t.Kids {
		is, until := m.mayBe(k, at)
		may, at = may && is, until
	}
	left := m.g.Prods[t.Prod].Left
	return may && !m.isRejected(left, m.text[from:at]) && !m.isFollowed(left, at), at
}

// P12.1: without Prefer and Avoid, the trees over what is left are those over the whole list in which nothing is rejected or followed.
func TestTrees(t *testing.T) {
	die := rand.New(rand.NewSource(122))
	const many = 40
	trees, lost := 0, 0
	for i := range 15000 {
		g := randomGrammar(die, 1+i%3, 1+i%5, 1+i%3)
		for k := range g.Prods {
			g.Prods[k].Prefer, g.Prods[k].Avoid = false, false
		}
		text := pick(die, textsOf("ab", 1+i%4)...)
		alts := waysOf(t, g, text)
		left, e := filters.Filter(g, text, alts)
		if e != api.OK {
			t.Fatalf("P12.1: %v", e)
		}
		m := &plain{g: g, text: text}
		for _, a := range alts {
			all, _ := forest.Trees(g, text, alts, a.Sort, a.From, a.Until, many)
			got, e := forest.Trees(g, text, left, a.Sort, a.From, a.Until, many)
			if len(all) == many || e != api.OK {
				continue
			}
			want := slices.DeleteFunc(slices.Clone(all), func(x api.Tree) bool {
				may, _ := m.mayBe(x, a.From)
				return !may
			})
			if fmt.Sprint(got) != fmt.Sprint(want) {
				t.Fatalf("P12.1: %v of %q: trees %v, want %v: %s%v %v", placeOf(a), text, got, want, kernel.Text(g), g.Forbid, g.Follow)
			}
			trees, lost = trees+len(got), lost+len(all)-len(got)
		}
	}
	if trees < 10000 || lost < 3000 {
		t.Errorf("%d trees, %d others", trees, lost)
	}
}
