package deftext_test

import (
	"math"
	"math/rand"
	"reflect"
	"slices"
	"strings"
	"testing"

	"rosetta/api"
	"rosetta/deftext"
)

// whole tells a module that has something of everything, each time in new memory.
func whole() api.Module {
	m, at, e := deftext.Parse(`module M; import N (A = B, C = D); import O; start S; layout L; comment C; comment D;
		syntax S.A = "x" { T "," }* U? [a] (left, prefer, bracket) as 1 soft "y"; lexical L = [\x20]+ (reject); syntax S.B = A* (avoid);
		restrict "if" not [a-z]; restrict Id not [b]; priority left E.Mul E.Div > E.If; priority A.B; scope S.Let { inner 2 3; declare 1 Var; declare 2 W; use own 2 Var; use 3 Var; } scope S.B { }`)
	if e != api.OK {
		panic(at)
	}
	return m
}

// overfull tells a list with one thing more than may be.
func overfull[T any](one T, most int) []T {
	return slices.Repeat([]T{one}, most+1)
}

// spoilt tells changes each of which makes of a module one that may not be.
func spoilt() []func(m *api.Module) {
	var out []func(m *api.Module)
	bad := append(reservedNames(), "1", "1a", "a b", "A.B", "a ", " a", "a;", "\u00e4", "a\x00", `"A"`, "[a]", strings.Repeat("n", 65), strings.Repeat("n", 1<<21))
	for _, name := range append(bad, "") {
		out = append(out,
			func(m *api.Module) { m.Name = name },
			func(m *api.Module) { m.Imports[1].Name = name },
			func(m *api.Module) { m.Imports[0].Renames[1].From = name },
			func(m *api.Module) { m.Imports[0].Renames[0].To = name },
			func(m *api.Module) { m.Comments[1] = name },
			func(m *api.Module) { m.Prods[1].Sort = name },
			func(m *api.Module) { m.Prods[0].Right[1].Name = name },
			func(m *api.Module) { m.Restricts[1].Name = name },
			func(m *api.Module) { m.Prios[0].Groups[0].Names[1].Sort = name },
			func(m *api.Module) { m.Prios[0].Groups[1].Names[0].Cons = name },
			func(m *api.Module) { m.Scopes[0].Of.Sort = name },
			func(m *api.Module) { m.Scopes[1].Of.Cons = name },
			func(m *api.Module) { m.Scopes[0].Declares[1].Space = name },
			func(m *api.Module) { m.Scopes[0].Uses[0].Space = name },
		)
	}
	for _, name := range bad {
		out = append(out,
			func(m *api.Module) { m.Start = name },
			func(m *api.Module) { m.Layout = name },
			func(m *api.Module) { m.Prods[0].Cons = name },
		)
	}
	for _, text := range []string{"", strings.Repeat("t", 31), strings.Repeat("t", 1<<21)} {
		out = append(out,
			func(m *api.Module) { m.Prods[0].Right[0].Text = text },
			func(m *api.Module) { m.Prods[0].Template[2].Text = text },
			func(m *api.Module) { m.Restricts[0].Text = text },
		)
	}
	for _, sep := range []string{strings.Repeat("t", 31), strings.Repeat("t", 1<<21)} {
		out = append(out, func(m *api.Module) { m.Prods[0].Right[1].Sep = sep })
	}
	for _, n := range []int{-1, 0, 31, 1000, math.MaxInt, math.MinInt} {
		out = append(out,
			func(m *api.Module) { m.Prods[0].Template[0].Kid = n },
			func(m *api.Module) { m.Scopes[0].Declares[0].Kid = n },
			func(m *api.Module) { m.Scopes[0].Uses[1].Kid = n },
			func(m *api.Module) { m.Scopes[0].Inner[1] = n },
		)
	}
	for _, n := range []int{-1, 4, 5, math.MaxInt, math.MinInt} {
		out = append(out,
			func(m *api.Module) { m.Prods[0].Right[2].Is = api.DefIs(n) },
			func(m *api.Module) { m.Prods[0].Right[2].Many = api.DefMany(n) },
			func(m *api.Module) { m.Prods[0].Assoc = api.Assoc(n) },
			func(m *api.Module) { m.Prios[0].Groups[0].Assoc = api.Assoc(n) },
		)
	}
	for _, n := range []int{-1, 0, 5, math.MaxInt, math.MinInt} {
		out = append(out, func(m *api.Module) { m.Prods[0].Template[1].Break = n })
	}
	return append(out, spoiltShapes()...)
}

// spoiltShapes is as spoilt, by what stands beside each other, and by how much.
func spoiltShapes() []func(m *api.Module) {
	return []func(m *api.Module){
		func(m *api.Module) { m.Prods[0].Lexical = true },
		func(m *api.Module) { m.Prods[1].Lexical = false }, // it is rejected
		func(m *api.Module) { m.Prods[1].Cons = "C" },
		func(m *api.Module) { m.Prods[1].Prefer = true },
		func(m *api.Module) { m.Prods[1].Avoid = true },
		func(m *api.Module) { m.Prods[1].Bracket = true },
		func(m *api.Module) { m.Prods[1].Assoc = api.AssocNon },
		func(m *api.Module) { m.Prods[1].Template = []api.DefItem{kid(1)} },
		func(m *api.Module) { m.Prods[0].Reject = true },
		func(m *api.Module) { m.Prods[0].Avoid = true },
		func(m *api.Module) { m.Prods[2].Prefer = true },
		func(m *api.Module) { m.Prods[0].Right[0].Name = "A" },
		func(m *api.Module) { m.Prods[0].Right[0].Set[3] = 1 },
		func(m *api.Module) { m.Prods[0].Right[1].Text = "a" },
		func(m *api.Module) { m.Prods[0].Right[1].Set[0] = 1 },
		func(m *api.Module) { m.Prods[0].Right[3].Text = "a" },
		func(m *api.Module) { m.Prods[0].Right[3].Name = "A" },
		func(m *api.Module) { m.Prods[0].Right[1].Many = api.ManyOne },
		func(m *api.Module) { m.Prods[0].Right[1].Many = api.ManyOpt },
		func(m *api.Module) { m.Prods[0].Right[2].Sep = "," },
		func(m *api.Module) { m.Prods[0].Right[0].Sep = "," },
		func(m *api.Module) { m.Prods[0].Right = append(m.Prods[0].Right, api.DefSym{}) },
		func(m *api.Module) { m.Prods[0].Template[0].Text = "x" },
		func(m *api.Module) { m.Prods[0].Template[0].Break = 1 },
		func(m *api.Module) { m.Prods[0].Template[1].Text = "x" },
		func(m *api.Module) { m.Prods[0].Template = append(m.Prods[0].Template, api.DefItem{}) },
		func(m *api.Module) { m.Restricts[0].Name = "A" },
		func(m *api.Module) { m.Restricts[1].Text = "A" },
		func(m *api.Module) { m.Restricts = append(m.Restricts, api.DefRestrict{}) },
		func(m *api.Module) { m.Prios[1].Groups = nil },
		func(m *api.Module) { m.Prios[0].Groups[1].Names = []api.DefName{} },
		func(m *api.Module) { m.Prios = append(m.Prios, api.DefPrio{}) },
		func(m *api.Module) { m.Prods = append(m.Prods, api.DefProd{}) },
		func(m *api.Module) { m.Scopes = append(m.Scopes, api.DefScope{}) },
		func(m *api.Module) { m.Imports = append(m.Imports, api.DefImport{}) },
		func(m *api.Module) { m.Imports = overfull(m.Imports[0], 64) },
		func(m *api.Module) { m.Imports[1].Renames = overfull(m.Imports[0].Renames[0], 1000) },
		func(m *api.Module) { m.Comments = overfull("C", 1000) },
		func(m *api.Module) { m.Prods = overfull(m.Prods[1], 1000) },
		func(m *api.Module) { m.Prods = overfull(m.Prods[0], 1000) },
		func(m *api.Module) { m.Prods[1].Right = overfull(sort("A"), 30) },
		func(m *api.Module) { m.Prods[0].Template = overfull(brk(1), 1000) },
		func(m *api.Module) { m.Restricts = overfull(m.Restricts[0], 1000) },
		func(m *api.Module) { m.Prios = overfull(m.Prios[0], 1000) },
		func(m *api.Module) { m.Prios[0].Groups = overfull(m.Prios[0].Groups[0], 1000) },
		func(m *api.Module) { m.Prios[0].Groups[0].Names = overfull(cons("A.B"), 1000) },
		func(m *api.Module) { m.Scopes = overfull(m.Scopes[1], 1000) },
		func(m *api.Module) { m.Scopes[0].Declares = overfull(m.Scopes[0].Declares[0], 1000) },
		func(m *api.Module) { m.Scopes[0].Uses = overfull(m.Scopes[0].Uses[0], 1000) },
		func(m *api.Module) { m.Scopes[0].Inner = overfull(1, 1000) },
	}
}

func TestCheckWrong(t *testing.T) {
	if e := deftext.Check(whole()); e != api.OK {
		t.Fatalf("P4.2: Check: %v", e)
	}
	for i, spoil := range spoilt() {
		m := whole()
		spoil(&m)
		if e := deftext.Check(m); e != api.ErrArg {
			t.Errorf("P4.2: Check of spoilt module %d: %v", i, e)
		}
		if s, e := deftext.Print(m); s != "" || e != api.ErrArg {
			t.Errorf("P4.2: Print of spoilt module %d: %q %v", i, brief(s), e)
		}
		checkPiecesOf(t, m)
	}
	for _, m := range []api.Module{{}, {Start: "S"}, {Name: ""}} {
		if s, e := deftext.Print(m); s != "" || e != api.ErrArg || deftext.Check(m) != api.ErrArg {
			t.Errorf("P4.2: Print of %+v: %q %v", m, s, e)
		}
	}
}

// checkPiecesOf asks that each piece of a module has a text just if it may be, beside a head that may be.
func checkPiecesOf(t *testing.T, m api.Module) {
	t.Helper()
	check := func(call, text string, alone api.Module) {
		t.Helper()
		alone.Name = "M"
		if e := deftext.Check(alone); (e == api.OK) != (text != "") {
			t.Errorf("P4.3: %s of %s: %q, but Check %v", call, brief(alone), brief(text), e)
		}
	}
	for _, d := range m.Prods[:min(len(m.Prods), 3)] {
		check("Prod", deftext.Prod(d), api.Module{Prods: []api.DefProd{d}})
	}
	for _, r := range m.Restricts[:min(len(m.Restricts), 3)] {
		check("Restrict", deftext.Restrict(r), api.Module{Restricts: []api.DefRestrict{r}})
	}
	for _, p := range m.Prios[:min(len(m.Prios), 3)] {
		check("Prio", deftext.Prio(p), api.Module{Prios: []api.DefPrio{p}})
	}
	for _, s := range m.Scopes[:min(len(m.Scopes), 3)] {
		check("Scope", deftext.Scope(s), api.Module{Scopes: []api.DefScope{s}})
	}
}

// Each list with as many things as may be.
func TestCheckFull(t *testing.T) {
	one := whole()
	full := func(change func(m *api.Module)) {
		t.Helper()
		m := whole()
		change(&m)
		checkPrint(t, m, told(m))
		checkPiecesOf(t, m)
	}
	full(func(m *api.Module) { m.Imports = overfull(m.Imports[0], 63) })
	full(func(m *api.Module) { m.Imports[1].Renames = overfull(one.Imports[0].Renames[0], 999) })
	full(func(m *api.Module) { m.Comments = overfull("C", 999) })
	full(func(m *api.Module) { m.Prods = overfull(m.Prods[1], 999) })
	full(func(m *api.Module) { m.Prods[1].Right = overfull(sort("A"), 29) })
	full(func(m *api.Module) { m.Prods[0].Template = overfull(brk(1), 999) })
	full(func(m *api.Module) { m.Restricts = overfull(m.Restricts[0], 999) })
	full(func(m *api.Module) { m.Prios = overfull(m.Prios[0], 999) })
	full(func(m *api.Module) { m.Prios[0].Groups = overfull(one.Prios[0].Groups[0], 999) })
	full(func(m *api.Module) { m.Prios[0].Groups[0].Names = overfull(cons("A.B"), 999) })
	full(func(m *api.Module) { m.Scopes = overfull(m.Scopes[1], 999) })
	full(func(m *api.Module) { m.Scopes[0].Declares = overfull(one.Scopes[0].Declares[0], 999) })
	full(func(m *api.Module) { m.Scopes[0].Uses = overfull(one.Scopes[0].Uses[0], 999) })
	full(func(m *api.Module) { m.Scopes[0].Inner = overfull(1, 999) })
}

func TestSame(t *testing.T) {
	differ := []func(m *api.Module){
		func(m *api.Module) { m.Name = "N" },
		func(m *api.Module) { m.Imports[0].Name = "M" },
		func(m *api.Module) { m.Imports[0].Renames[0].From = "X" },
		func(m *api.Module) { m.Imports[0].Renames[0].To = "X" },
		func(m *api.Module) { slices.Reverse(m.Imports[0].Renames) },
		func(m *api.Module) { slices.Reverse(m.Imports) },
		func(m *api.Module) { m.Imports = m.Imports[:1] },
		func(m *api.Module) { m.Start = "" },
		func(m *api.Module) { m.Layout = "S" },
		func(m *api.Module) { m.Comments[0] = "X" },
		func(m *api.Module) { slices.Reverse(m.Comments) },
		func(m *api.Module) { m.Comments = nil },
		func(m *api.Module) { slices.Reverse(m.Prods) },
		func(m *api.Module) { m.Prods = m.Prods[:2] },
		func(m *api.Module) { m.Prods[0].Lexical = true },
		func(m *api.Module) { m.Prods[0].Sort = "X" },
		func(m *api.Module) { m.Prods[0].Cons = "X" },
		func(m *api.Module) { slices.Reverse(m.Prods[0].Right) },
		func(m *api.Module) { m.Prods[0].Right = m.Prods[0].Right[:3] },
		func(m *api.Module) { m.Prods[0].Reject = true },
		func(m *api.Module) { m.Prods[0].Prefer = false },
		func(m *api.Module) { m.Prods[0].Avoid = true },
		func(m *api.Module) { m.Prods[0].Bracket = false },
		func(m *api.Module) { m.Prods[0].Assoc = 17 },
		func(m *api.Module) { slices.Reverse(m.Prods[0].Template) },
		func(m *api.Module) { m.Prods[0].Template = nil },
		func(m *api.Module) { m.Prods[0].Template[0].Kid = 2 },
		func(m *api.Module) { m.Prods[0].Template[0].Text = "y" },
		func(m *api.Module) { m.Prods[0].Template[0].Break = -3 },
		func(m *api.Module) { m.Prods[0].Right[0].Is = 1 << 40 },
		func(m *api.Module) { m.Prods[0].Right[0].Name = "x" },
		func(m *api.Module) { m.Prods[0].Right[0].Text = "y" },
		func(m *api.Module) { m.Prods[0].Right[0].Set[2] = 1 },
		func(m *api.Module) { m.Prods[0].Right[0].Many = -1 },
		func(m *api.Module) { m.Prods[0].Right[0].Sep = "," },
		func(m *api.Module) { m.Restricts[0].Name = "A" },
		func(m *api.Module) { m.Restricts[0].Text = "A" },
		func(m *api.Module) { m.Restricts[0].Not[3] = 1 << 63 },
		func(m *api.Module) { slices.Reverse(m.Restricts) },
		func(m *api.Module) { m.Prios[0].Groups[0].Assoc = 0 },
		func(m *api.Module) { m.Prios[0].Groups[0].Names[0].Sort = "X" },
		func(m *api.Module) { m.Prios[0].Groups[0].Names[0].Cons = "X" },
		func(m *api.Module) { slices.Reverse(m.Prios[0].Groups[0].Names) },
		func(m *api.Module) { slices.Reverse(m.Prios[0].Groups) },
		func(m *api.Module) { slices.Reverse(m.Prios) },
		func(m *api.Module) { m.Scopes[0].Of.Sort = "X" },
		func(m *api.Module) { m.Scopes[0].Of.Cons = "X" },
		func(m *api.Module) { m.Scopes[0].Declares[0].Kid = 9 },
		func(m *api.Module) { m.Scopes[0].Declares[0].Space = "X" },
		func(m *api.Module) { m.Scopes[0].Declares[0].Own = true },
		func(m *api.Module) { m.Scopes[0].Uses[0].Own = false },
		func(m *api.Module) { slices.Reverse(m.Scopes[0].Declares) },
		func(m *api.Module) { slices.Reverse(m.Scopes[0].Uses) },
		func(m *api.Module) { slices.Reverse(m.Scopes[0].Inner) },
		func(m *api.Module) { m.Scopes[0].Inner = append(m.Scopes[0].Inner, 1) },
		func(m *api.Module) { slices.Reverse(m.Scopes) },
	}
	check := func(a, b api.Module, want bool) {
		t.Helper()
		if deftext.Same(a, b) != want || deftext.Same(b, a) != want {
			t.Errorf("P4.4: Same(%s, %s), want %v", brief(a), brief(b), want)
		}
	}
	check(api.Module{}, api.Module{}, true)
	check(whole(), whole(), true)
	check(whole(), api.Module{}, false)
	for _, change := range append(differ, spoilt()...) {
		a, b := whole(), whole()
		change(&a)
		same := reflect.DeepEqual(a, b) // some of what spoils a module leaves this one as it is
		check(a, b, same)
		change(&b)
		check(a, b, true)
	}
	empty := api.Module{Imports: []api.DefImport{}, Comments: []string{}, Prods: []api.DefProd{}, Restricts: []api.DefRestrict{}, Prios: []api.DefPrio{}, Scopes: []api.DefScope{}}
	check(empty, api.Module{}, true)
	check(
		api.Module{Imports: []api.DefImport{{Renames: []api.DefRename{}}}, Prods: []api.DefProd{{Right: []api.DefSym{}, Template: []api.DefItem{}}}, Prios: []api.DefPrio{{Groups: []api.DefGroup{{Names: []api.DefName{}}}}, {Groups: []api.DefGroup{}}}, Scopes: []api.DefScope{{Declares: []api.DefDeclare{}, Uses: []api.DefUse{}, Inner: []int{}}}},
		api.Module{Imports: []api.DefImport{{}}, Prods: []api.DefProd{{}}, Prios: []api.DefPrio{{Groups: []api.DefGroup{{}}}, {}}, Scopes: []api.DefScope{{}}}, true)
	check(api.Module{Comments: []string{""}}, api.Module{}, false)
	check(api.Module{Scopes: []api.DefScope{{}}}, api.Module{}, false)
}

func TestSameAsSlow(t *testing.T) {
	die := rand.New(rand.NewSource(444))
	for range 2_000 {
		a, b := randomModule(die), randomModule(die)
		same := reflect.DeepEqual(a, b)
		if deftext.Same(a, b) != same || !deftext.Same(a, a) || (told(a) == told(b)) != same {
			t.Fatalf("P4.4: Same(%+v, %+v)", a, b)
		}
	}
}

// What is handed in is left as it is.
func TestLeavesAsIs(t *testing.T) {
	m, want := whole(), whole()
	m.Prods[0].Template = append(m.Prods[0].Template, brk(4))[:3]
	m.Comments = append(m.Comments, "X")[:2]
	deftext.Check(m)
	deftext.Print(m)
	deftext.Same(m, want)
	checkPiecesOf(t, m)
	if !reflect.DeepEqual(m, want) || m.Comments[:3][2] != "X" || m.Prods[0].Template[:4][3] != brk(4) {
		t.Errorf("P4.2: %+v is changed", m)
	}
}
