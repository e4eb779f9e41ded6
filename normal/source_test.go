package normal_test

import (
	"math"
	"math/rand"
	"reflect"
	"slices"
	"strings"
	"testing"

	"rosetta/api"
	"rosetta/deftext"
	"rosetta/kernel"
	"rosetta/modules"
	"rosetta/normal"
)

// sameProd tells whether two productions are the same: nil and empty lists are.
func sameProd(a, b api.DefProd) bool {
	return deftext.Same(api.Module{Prods: []api.DefProd{a}}, api.Module{Prods: []api.DefProd{b}})
}

// checkSources asks for the source of each production of a definition's grammar.
func checkSources(t *testing.T, m api.Module, want ...string) {
	t.Helper()
	g := made(t, m)
	var got []string
	for i, p := range g.Prods {
		d, ok := normal.Source(m, g, i)
		text := deftext.Prod(d)
		if ok != (p.From >= 0) || ok != (text != "") || !ok && !sameProd(d, api.DefProd{}) {
			t.Errorf("P7.2: Source(%s, %d): %v %v", brief(m), i, d, ok)
		}
		got = append(got, text)
	}
	if !slices.Equal(got, want) {
		t.Errorf("P7.2: Source(%s): %q, want %q", brief(m), got, want)
	}
	for _, n := range []int{-1, len(g.Prods), len(g.Prods) + 1, math.MinInt64, math.MaxInt64} {
		if d, ok := normal.Source(m, g, n); ok || !sameProd(d, api.DefProd{}) {
			t.Errorf("P7.2: Source(%s, %d): %v %v", brief(m), n, d, ok)
		}
	}
}

func TestSource(t *testing.T) {
	checkSources(t, read(example), "", "", "", `syntax E.Add = E "+" E (left);`, "syntax E.Num = N;", `lexical L = [\x20]+;`, "lexical N = [0-9]+;", "", "", "", "", "")
	m := read(`start S; syntax S.B = T S (prefer, left) as 1 2 soft; lexical T = [t] (reject); syntax S = "(" S ")" (bracket); syntax S.A =; lexical T = [t]* T?; lexical A = [t]; lexical T = A;`)
	want := []string{"", `syntax S = "(" S ")" (bracket);`, "syntax S.A =;", "syntax S.B = T S (prefer, left) as 1 2 soft;", "lexical T = A;", "lexical T = [t] (reject);", "lexical T = [t]* T?;"}
	want = slices.Insert(want, 1, "lexical A = [t];")
	want = append(want, slices.Repeat([]string{""}, 8)...)
	checkSources(t, m, want...)
	slices.Reverse(m.Prods)
	checkSources(t, m, want...)
	checkSources(t, api.Module{Name: "M", Start: "S", Prods: append(m.Prods, m.Prods...)}, want...) // each production counts once
	// Of grammars that are not the definition's, From alone counts.
	g := made(t, m)
	g.Prods[0].From = 1
	if d, ok := normal.Source(m, g, 0); !ok || deftext.Prod(d) != "lexical T = A;" {
		t.Errorf("P7.2: Source from 1: %v %v", d, ok)
	}
	for _, from := range []int{len(m.Prods), math.MaxInt64, -1, -2, math.MinInt64} {
		g.Prods[1].From = from
		if d, ok := normal.Source(m, g, 1); ok || !sameProd(d, api.DefProd{}) {
			t.Errorf("P7.2: Source from %d: %v %v", from, d, ok)
		}
	}
	if d, ok := normal.Source(m, api.Grammar{}, 0); ok || !sameProd(d, api.DefProd{}) {
		t.Errorf("P7.2: Source of no grammar: %v %v", d, ok)
	}
}

func TestLexical(t *testing.T) {
	for text, want := range map[string]string{
		"": "", "syntax E.A = L;": "", "lexical L =;": "L", "lexical L = [a] (reject);": "L",
		"lexical b = [a]; lexical L = B; lexical _ = [c]; lexical L = [d]; lexical A10 = [a]; syntax L.A = C; lexical A9 = [a]; lexical L = [x] (reject);": "A10 A9 L _ b",
		"import N; lexical L = [a]; start Q; layout R; comment S; restrict T not [t];":                                                                     "L",
		well: "C L N",
	} {
		if got := normal.Lexical(read(text)); strings.Join(got, " ") != want {
			t.Errorf("P7.2: Lexical(%s): %v, want %s", text, got, want)
		}
	}
	if got := normal.Lexical(api.Module{Prods: []api.DefProd{{Lexical: true, Sort: "L"}}}); len(got) != 0 {
		t.Errorf("P7.2: Lexical of a module that may not be: %v", got)
	}
}

// shuffled tells a module whose parts stand in another order, some of them twice.
func shuffled(die *rand.Rand, m api.Module) api.Module {
	m.Comments = another(die, m.Comments)
	m.Prods = another(die, m.Prods)
	m.Restricts = another(die, m.Restricts)
	m.Prios = another(die, m.Prios)
	m.Scopes = another(die, m.Scopes)
	return m
}

func another[T any](die *rand.Rand, l []T) []T {
	out := slices.Clone(l)
	if len(l) > 0 {
		out = append(out, l[die.Intn(len(l))])
	}
	die.Shuffle(len(out), func(i, j int) { out[i], out[j] = out[j], out[i] })
	return out
}

// Make hangs on the parts alone: not on their order, nor on one being told twice, nor on the name.
func TestOrder(t *testing.T) {
	const text = well + `restrict L not [a]; restrict L not [b]; restrict "+" not [\-]; priority E.Add > E.F; priority non E.Num E.F; syntax E.Sub = E "-" E (right); syntax E.Neg = "-" E; lexical N = "2" (reject); comment N;`
	m := read(text)
	want := made(t, m)
	ordered, _ := modules.Rename(m)
	die := rand.New(rand.NewSource(7))
	for range 200 {
		other := shuffled(die, m)
		other.Name = "Other"
		if g := made(t, other); !kernel.Same(g, want) {
			t.Fatalf("P7.3: Make(%s):\n%s\nwant\n%s", brief(other), strings.Join(told(g), "\n"), strings.Join(told(want), "\n"))
		}
		for i, p := range want.Prods {
			d, ok := normal.Source(other, want, i)
			if ok != (p.From >= 0) || ok && !sameProd(d, ordered.Prods[p.From]) {
				t.Fatalf("P7.3: Source(%s, %d): %v %v", brief(other), i, d, ok)
			}
		}
	}
	flawed := read(text + `syntax E.Num = "n"; syntax E.Num = "m"; syntax E = Q; lexical F = [f]; scope Q.Q { } restrict Q not [];`)
	flaws, _ := normal.Flaws(flawed)
	for range 100 {
		checkFlaws(t, shuffled(die, flawed), flaws...)
	}
}

// Without layout, literals, lists, options there are as many productions as the definition's own, and one more.
func TestAsMany(t *testing.T) {
	for _, text := range []string{
		"start E; syntax E.A =;", "start E; lexical E = [a] E; lexical E = [b]; lexical E = [aa] (reject);",
		"start E; syntax E.A = E E (left); syntax E.B = N (prefer); syntax E = N; lexical N = [0-9] N; lexical N =; syntax E.C = [a] [b];",
	} {
		m := read(text)
		if g := made(t, m); len(g.Prods) != len(m.Prods)+1 {
			t.Errorf("P7.3: Make(%s): %d productions", text, len(g.Prods))
		}
	}
}

// lists tells the memory of all lists that stand in a value.
func lists(v reflect.Value, tell func(at uintptr)) {
	switch v.Kind() {
	case reflect.Slice:
		if v.Cap() > 0 {
			tell(v.Pointer())
		}
		fallthrough
	case reflect.Array:
		for i := range v.Len() {
			lists(v.Index(i), tell)
		}
	case reflect.Struct:
		for i := range v.NumField() {
			lists(v.Field(i), tell)
		}
	}
}

// spaced puts spare room behind a list, and tells what stands there.
func spaced[T any](l []T, spare T) ([]T, func() any) {
	long := append(slices.Clone(l), spare, spare)
	return long[:len(l)], func() any { return slices.Clone(long) }
}

// Nothing that is handed in is changed, its spare room neither; no list of an answer is one that was handed in, or another one.
func TestNewMemory(t *testing.T) {
	m := read(well + `syntax E.Q = "a" N* { N "," }+ [a]+ E? F "a";`)
	shared := m.Prods[0].Right
	m.Prods = append(m.Prods, api.DefProd{Lexical: true, Sort: "N", Right: shared}, api.DefProd{Lexical: true, Sort: "N", Right: append(shared, shared...)})
	slices.Reverse(m.Prods)
	var looks []func() any
	look := func(l func() any) { looks = append(looks, l) }
	var f func() any
	m.Prods, f = spaced(m.Prods, api.DefProd{Sort: "Spare"})
	look(f)
	m.Comments, f = spaced(m.Comments, "Spare")
	look(f)
	m.Restricts, f = spaced(m.Restricts, api.DefRestrict{Name: "Spare"})
	look(f)
	m.Prios, f = spaced(m.Prios, api.DefPrio{})
	look(f)
	m.Scopes, f = spaced(m.Scopes, api.DefScope{})
	look(f)
	for i := range m.Prods {
		m.Prods[i].Right, f = spaced(m.Prods[i].Right, api.DefSym{Name: "Spare"})
		look(f)
	}
	var before []any
	for _, l := range looks {
		before = append(before, l())
	}
	g := made(t, m)
	again := made(t, m)
	flawed := m
	flawed.Start = "Q"
	flaws, _ := normal.Flaws(flawed)
	more, _ := normal.Flaws(flawed)
	answers := []any{g, again, flaws, more, normal.Lexical(m), normal.Lexical(m)}
	for i := range g.Prods {
		for range 2 {
			if p, ok := normal.Source(m, g, i); ok {
				answers = append(answers, p)
			}
		}
	}
	for i, l := range looks {
		if !reflect.DeepEqual(l(), before[i]) {
			t.Errorf("P7.1: what was handed in has changed: %v, was %v", l(), before[i])
		}
	}
	seen := map[uintptr]int{}
	lists(reflect.ValueOf(m), func(at uintptr) { seen[at] = -1 })
	for i, answer := range answers {
		lists(reflect.ValueOf(answer), func(at uintptr) {
			if was, is := seen[at]; is {
				t.Errorf("P7.1: answer %d shares what is in %d", i, was)
			}
			seen[at] = i
		})
	}
}
