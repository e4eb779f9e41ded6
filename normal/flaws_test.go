package normal_test

import (
	"slices"
	"strconv"
	"strings"
	"testing"

	"rosetta/api"
	"rosetta/normal"
	"rosetta/sets"
)

// errs are the flaws' errors by words of these tests.
var errs = map[string]api.Errno{"start": api.ErrStart, "mixed": api.ErrMixed, "sort": api.ErrSort, "lexical": api.ErrLexical, "reject": api.ErrReject, "cons": api.ErrCons, "prio": api.ErrPrio, "dead": api.ErrDead, "apart": api.ErrApart}

// flawsOf tells flaws by words: an error's word, a blank, and what it is of.
func flawsOf(words []string) []api.Flaw {
	var out []api.Flaw
	for _, w := range words {
		err, of, _ := strings.Cut(w, " ")
		if errs[err] == 0 {
			panic(w)
		}
		out = append(out, api.Flaw{Err: errs[err], Of: of})
	}
	return out
}

// well is a well formed definition in which all kinds of parts stand.
const well = `start E; layout L; comment C; lexical L = [ ]; lexical L = C; lexical C = "#" [a]*; lexical N = [0-9]+; lexical N = "1" (reject); syntax E.Num = N (prefer); syntax E.Add = E "+" E (left); syntax E = "(" E ")" (bracket) as "(" 1 ")"; syntax E.F = F; syntax F.F = { N "," }* C?;
	restrict L not [ ]; restrict "+" not [+]; priority E.Num > left E.Add; scope E.Add { use 1 V; } `

func TestWell(t *testing.T) {
	made(t, read(well))
}

// Each flaw alone: what is put to a definition that is well formed.
func TestFlawsAlone(t *testing.T) {
	for _, x := range []struct {
		more string
		want []string
	}{
		{"restrict Q not [a];", []string{"sort Q"}},
		{"restrict Q not [];", []string{"sort Q"}},
		{"comment Q;", []string{"sort Q"}},
		{"comment N; comment Q; comment P;", []string{"sort P", "sort Q"}},
		{"syntax E.Q = Q;", []string{"sort Q"}},
		{"syntax E.Q = N Q* Q? { Q \"Q\" }+;", []string{"sort Q"}},
		{"syntax E = Q;", []string{"sort Q"}},
		{"lexical N = Q;", []string{"sort Q"}},
		{"lexical N = [a] Q+;", []string{"sort Q"}},
		{"priority Q.Num;", []string{"sort Q", "prio Q.Num"}}, // a constructor of a sort without productions is none, too
		{"scope Q.Num { }", []string{"sort Q", "prio Q.Num"}},
		{"lexical F = [f];", []string{"mixed F"}},
		{"lexical F = [f] (reject);", []string{"mixed F"}},
		{"lexical E = [f];", []string{"mixed E"}},
		{"syntax N.N =;", []string{"mixed N"}},
		{"syntax N = F;", []string{"mixed N"}},
		{"lexical N = F;", []string{"lexical lexical N = F;"}},
		{"lexical N = [a] F* F?;", []string{"lexical lexical N = [a] F* F?;"}},
		{"lexical N = { E \",\" }+;", []string{"lexical lexical N = { E \",\" }+;"}},
		{"lexical N = [];", []string{"lexical lexical N = [];"}},
		{"lexical N = [a] []* [];", []string{"lexical lexical N = [a] []* [];"}},
		{"lexical N = []?;", []string{"lexical lexical N = []?;"}},
		{"lexical N = [] (reject);", []string{"lexical lexical N = [] (reject);"}},
		{"syntax E.Q = [];", []string{"lexical syntax E.Q = [];"}},
		{"syntax E.Q = N { [] \",\" }+;", []string{"lexical syntax E.Q = N { [] \",\" }+;"}},
		{"comment F;", []string{"lexical F"}},
		{"comment E; comment F; comment N;", []string{"lexical E", "lexical F"}},
		{"lexical N = N (reject);", []string{"reject lexical N = N (reject);"}},
		{`lexical N = "a" N "b" (reject);`, []string{`reject lexical N = "a" N "b" (reject);`}},
		{`lexical N = "a"* (reject);`, []string{`reject lexical N = "a"* (reject);`}},
		{`lexical N = "a"+ (reject);`, []string{`reject lexical N = "a"+ (reject);`}},
		{`lexical N = [a] { "a" "a" }+ (reject);`, []string{`reject lexical N = [a] { "a" "a" }+ (reject);`}},
		{`lexical N = "a"? (reject);`, []string{`reject lexical N = "a"? (reject);`}},
		{`lexical N = [a]? (reject);`, []string{`reject lexical N = [a]? (reject);`}},
		{`lexical N = N? (reject);`, []string{`reject lexical N = N? (reject);`}},
		{"syntax E =;", []string{"cons syntax E =;"}},
		{`syntax E = "a" "b";`, []string{`cons syntax E = "a" "b";`}},
		{`syntax E = "a";`, []string{`cons syntax E = "a";`}},
		{"syntax E = E E;", []string{"cons syntax E = E E;"}},
		{`syntax E = N "a" F;`, []string{`cons syntax E = N "a" F;`}},
		{"syntax E = E N?;", []string{"cons syntax E = E N?;"}},
		{"syntax E = [a] E;", []string{"cons syntax E = [a] E;"}},
		{`syntax E = "a"* E;`, []string{`cons syntax E = "a"* E;`}},
		{`syntax E = E "a"? "b";`, []string{`cons syntax E = E "a"? "b";`}},
		{"syntax E = N?;", []string{"cons syntax E = N?;"}},
		{"syntax E = N*;", []string{"cons syntax E = N*;"}},
		{`syntax E = "a" N+ "b";`, []string{`cons syntax E = "a" N+ "b";`}},
		{`syntax E = { N "," }+;`, []string{`cons syntax E = { N "," }+;`}},
		{"syntax E = [a];", []string{"cons syntax E = [a];"}},
		{"syntax E = [a]+;", []string{"cons syntax E = [a]+;"}},
		{`syntax E = "a"+;`, []string{`cons syntax E = "a"+;`}},
		{"syntax E.B = N (bracket);", []string{"cons syntax E.B = N (bracket);"}},
		{`syntax E.Num = "n";`, []string{"cons syntax E.Num = N (prefer);"}}, // the later one by order
		{`syntax E.Add = E;`, []string{"cons syntax E.Add = E;"}},
		{`syntax F.F = "f"; syntax F.F = "g"; syntax F.F = N (avoid);`, []string{`cons syntax F.F = "g";`, "cons syntax F.F = N (avoid);", `cons syntax F.F = { N "," }* C?;`}},
		{"priority E.Q;", []string{"prio E.Q"}},
		{"priority E.Num E.Q > E.Add;", []string{"prio E.Q"}},
		{"priority E.Num > E.Add > E.Add F.F F.E;", []string{"prio F.E"}},
		{"priority N.Num;", []string{"prio N.Num"}}, // a lexical sort has no constructors
		{"scope E.Q { }", []string{"prio E.Q"}},
		{"scope F.Num { use 1 V; } scope E.G { } scope E.Num { }", []string{"prio E.G", "prio F.Num"}},
		{"syntax E.D = D; syntax D.D = D;", []string{"dead D"}},
		{"syntax E.D = D D2; lexical D = D2; lexical D2 = D [a];", []string{"dead D", "dead D2"}},
		{"syntax E.D = D* D+ D?; lexical D = D;", []string{"dead D", "dead D+"}},
		{`syntax E.D = { D "d" }*; lexical D = D2; lexical D2 = D+;`, []string{"dead D", `dead D+"d"`, "dead D2", "dead ~D+"}},
		{`syntax E.D = D; lexical D = "d" (reject);`, []string{"dead D"}}, // a production that rejects tells no text
		{"lexical D = D;", []string{"dead D"}},                            // it is apart, too; that isn't told beside
		{"lexical D = D; lexical A = [a];", []string{"dead D"}},
		{"lexical A = [a];", []string{"apart A"}},
		{`syntax A.A = "a" A2* "b"; syntax A2.A = E;`, []string{"apart A", "apart A2"}},
		{`lexical A = A; lexical A = [a]; restrict A not [a]; comment A;`, []string{"apart A"}},
		{`lexical b = [b]; lexical _ = [b]; lexical A9 = b; lexical A10 = [a];`, []string{"apart A10", "apart A9", "apart _", "apart b"}},
	} {
		checkFlaws(t, read(well+x.more), flawsOf(x.want)...)
	}
}

// Flaws of what a definition says once: its Start, its Layout; and such as leave nothing productive.
func TestFlawsOfHead(t *testing.T) {
	for _, x := range []struct {
		text string
		want []string
	}{
		{"", []string{"start "}},
		{"syntax E.A =;", []string{"start "}},
		{"start Q;", []string{"start Q"}},
		{"start Q; syntax E.A =;", []string{"start Q"}},
		{"start Q; syntax E.A = Q; lexical L = Q; comment Q; layout Q; restrict Q not [a]; scope Q.A { }", []string{"start Q", "prio Q.A"}}, // the Start is no other missing sort
		{"start Q; syntax E.A = R;", []string{"start Q", "sort R"}},
		{"start L; layout L;", []string{"start L"}},
		{"start E; syntax E.A =; layout L;", []string{"sort L"}},
		{"start E; syntax E.A =; layout E;", []string{"lexical E"}},
		{"start E; syntax E.A =; layout E; comment E;", []string{"lexical E"}},
		{"start E; syntax E.A = F; syntax F.A =; layout F;", []string{"lexical F"}},
		{"start E; syntax E.A = F; syntax F.A =; lexical F = [f]; layout F; comment F;", []string{"mixed F"}}, // it has a lexical one
		{"start E; syntax E.A = E;", []string{"dead <start>", "dead E"}},
		{"start E; syntax E.A = E; layout L; lexical L = [ ];", []string{"dead <start>", "dead E"}},
		{"start E; syntax E.A =; layout L; lexical L = L;", []string{"dead L"}},
		{"start E; lexical E = [a] (reject);", []string{"dead <start>", "dead E"}},
		{"start E; syntax E.A = E+ \"a\" F?; syntax F.A = E;", []string{"dead <start>", "dead E", "dead E+", "dead F"}},
		{"start E; syntax E = E;", []string{"dead <start>", "dead E"}},
		{"start E; syntax E.A =; comment C; lexical C = [c];", []string{"apart C"}},
		{"start E; syntax E.A =; lexical L = [ ]; syntax F.F = L;", []string{"apart F", "apart L"}},
	} {
		checkFlaws(t, read(x.text), flawsOf(x.want)...)
	}
}

// What might seem a flaw, and is none.
func TestNoFlaws(t *testing.T) {
	for _, more := range []string{
		"", "syntax E = E;", `syntax E = "a" "b" E "c"; syntax E = E "d"; syntax E = F; syntax E = F (bracket);`, "syntax E.N = [a]; syntax F.Num = N;",
		`lexical N = "a" [b] "c" (reject); lexical N = (reject); lexical N = [^] (reject);`, `syntax E.Q = "x"* [a]+ N? { [a] "b" }*;`, "comment N; comment L;",
		"restrict C not [];", `restrict "nowhere" not [a];`, "scope E.Num { } scope F.F { declare 9 E; use 1 Q; inner 30; }", "priority E.Num E.Num > E.Num; priority F.F;",
		"syntax E.Some = (non, avoid) as in 7;", "lexical L =;", "syntax E.R = G; lexical G = [g]; lexical G = [h] (reject);", "syntax E.L = L;",
	} {
		if l, e := normal.Flaws(read(well + more)); len(l) != 0 || e != api.OK {
			t.Errorf("P7.1: Flaws with %s: %v %v", more, l, e)
		}
		made(t, read(well+more))
	}
}

// Flaws of several kinds stand in the order of the list, those of one kind by what they are of; dead and apart ones aren't told beside others.
func TestFlawsTogether(t *testing.T) {
	m := read(`start S; layout F; comment E; comment Q;
		syntax E.A = Q R; lexical E = [e]; syntax F.A = E; syntax F.B = E (bracket); syntax F.A = F; syntax F = [a]; syntax F.Z = [] E;
		lexical N = F; lexical N = N (reject); lexical M = M; lexical M = [e]; syntax M.M = M; lexical A = [];
		priority Z.Z E.B > F.A; scope F.C { } scope E.B { }`)
	want := flawsOf([]string{
		"start S",
		"mixed E", "mixed M",
		"sort Q", "sort R", "sort Z",
		"lexical F", "lexical lexical A = [];", "lexical lexical M = M;", "lexical lexical N = F;", "lexical syntax F.Z = [] E;",
		"reject lexical N = N (reject);",
		"cons syntax F = [a];", "cons syntax F.A = F;", "cons syntax F.B = E (bracket);",
		"prio E.B", "prio F.C", "prio Z.Z",
	})
	checkFlaws(t, m, want...)
	// Each kind is ahead of all behind it.
	part := map[string]string{
		"start": "start Q;", "mixed": "lexical F = [f];", "sort": "restrict Q not [a];", "lexical": "syntax E.Q = [];", "reject": "lexical N = N (reject);", "cons": "syntax E = [a];", "prio": "scope E.P { }", "dead": "syntax E.D = D; syntax D.D = D;", "apart": "lexical A = [a];",
	}
	order := []string{"start", "mixed", "sort", "lexical", "reject", "cons", "prio", "dead", "apart"}
	base := strings.TrimPrefix(well, "start E;")
	for i, first := range order {
		for _, second := range order[i+1:] {
			text := base + part[first] + part[second]
			if first != "start" {
				text += "start E;"
			}
			l, e := normal.Flaws(read(text))
			var kinds []api.Errno
			for _, f := range l {
				kinds = append(kinds, f.Err)
			}
			want := []api.Errno{errs[first], errs[second]}
			if second == "dead" || second == "apart" {
				want = want[:1]
			}
			if first == "start" && second == "sort" { // the Start that is missing is no other missing sort
				want = want[:1]
			}
			if e != api.OK || !slices.Equal(slices.Compact(kinds), want) {
				t.Errorf("P7.1: Flaws with %s and %s: %v %v", first, second, l, e)
			}
			if _, e := normal.Make(read(text)); e != errs[first] {
				t.Errorf("P7.1: Make with %s and %s: %v", first, second, e)
			}
		}
	}
}

// What layer 4 refuses, and what has imports, is no definition: ahead of all flaws.
func TestNoDefinition(t *testing.T) {
	checkRefused(t, api.Module{}, api.ErrArg)
	checkRefused(t, read("import M;"), api.ErrArg)
	checkRefused(t, read(well+"import N (A = B);"), api.ErrArg)
	bad := func(change func(m *api.Module)) {
		t.Helper()
		m := read(well)
		change(&m)
		checkRefused(t, m, api.ErrArg)
		if l := normal.Lexical(m); len(l) != 0 {
			t.Errorf("P7.2: Lexical(%s): %v", brief(m), l)
		}
		if p, ok := normal.Source(m, made(t, read(well)), 3); ok || !sameProd(p, api.DefProd{}) {
			t.Errorf("P7.2: Source(%s): %v %v", brief(m), p, ok)
		}
	}
	add := func(p api.DefProd) {
		t.Helper()
		bad(func(m *api.Module) { m.Prods = append(m.Prods, p) })
	}
	bad(func(m *api.Module) { m.Name = "" })
	bad(func(m *api.Module) { m.Start = "start" })
	bad(func(m *api.Module) { m.Layout = "<gap>" })
	bad(func(m *api.Module) { m.Comments = append(m.Comments, "") })
	bad(func(m *api.Module) { m.Prods = slices.Repeat(m.Prods[:1], api.MaxProds+1) })
	// Of these the chapter tells flaws, too; that layer 4 refuses them is ahead.
	set := []api.DefSym{{Is: api.DefSet, Set: sets.Of('a')}}
	add(api.DefProd{Lexical: true, Sort: "N", Cons: "C", Right: set})
	add(api.DefProd{Lexical: true, Sort: "N", Right: set, Template: []api.DefItem{{Kid: 1}}})
	add(api.DefProd{Lexical: true, Sort: "N", Right: set, Bracket: true})
	add(api.DefProd{Lexical: true, Sort: "N", Right: set, Assoc: api.AssocLeft})
	add(api.DefProd{Lexical: true, Sort: "N", Right: set, Prefer: true})
	add(api.DefProd{Lexical: true, Sort: "N", Right: set, Reject: true, Prefer: true})
	add(api.DefProd{Lexical: true, Sort: "N", Right: set, Reject: true, Avoid: true})
	add(api.DefProd{Sort: "E", Cons: "C", Right: set, Reject: true})
	add(api.DefProd{Sort: "E", Cons: "C", Right: []api.DefSym{{Is: api.DefLit}}})
	add(api.DefProd{Sort: "E", Cons: "C", Right: slices.Repeat(set, api.MaxRight+1)})
}

// manyProds tells a definition whose kernel grammar has so many productions.
func manyProds(count int) api.Module {
	m := read("start E;")
	for i := range count - 1 {
		m.Prods = append(m.Prods, api.DefProd{Sort: "E", Cons: "C" + strconv.Itoa(i)})
	}
	return m
}

func TestTooManyProds(t *testing.T) {
	g := made(t, manyProds(api.MaxProds))
	if len(g.Prods) != api.MaxProds {
		t.Errorf("P7.1: Make of many: %d productions", len(g.Prods))
	}
	checkRefused(t, manyProds(api.MaxProds+1), api.ErrLong)
	// Made productions count.
	with := func(count int, text string) api.Module {
		m, more := manyProds(count), read(text)
		m.Prods = append(m.Prods, more.Prods...)
		m.Layout = more.Layout
		return m
	}
	made(t, with(api.MaxProds-2, `syntax E.L = "a";`))
	checkRefused(t, with(api.MaxProds-1, `syntax E.L = "a";`), api.ErrLong)
	made(t, with(api.MaxProds-8, `syntax E.L = { E "a" }* "a" E?;`)) // its own one, one of the literal, two each of both lists and of the option
	checkRefused(t, with(api.MaxProds-7, `syntax E.L = { E "a" }* "a" E?;`), api.ErrLong)
	made(t, with(api.MaxProds-3, `layout L; lexical L = [ ];`))
	checkRefused(t, with(api.MaxProds-2, `layout L; lexical L = [ ];`), api.ErrLong)
	// The first kinds of flaws are ahead, the last two behind.
	checkFlaws(t, with(api.MaxProds, `syntax E.L = Q;`), flawsOf([]string{"sort Q"})...)
	checkFlaws(t, with(api.MaxProds, `syntax E = "a";`), flawsOf([]string{`cons syntax E = "a";`})...)
	checkRefused(t, with(api.MaxProds, `syntax D.D = D;`), api.ErrLong)
	checkRefused(t, with(api.MaxProds, `lexical A = [a];`), api.ErrLong)
	checkFlaws(t, with(api.MaxProds-1, `syntax D.D = D;`), flawsOf([]string{"dead D"})...)
	checkFlaws(t, with(api.MaxProds-1, `lexical A = [a];`), flawsOf([]string{"apart A"})...)
	m := manyProds(api.MaxProds)
	for i := range m.Prods { // a chain of sorts, as many as may be, and of as many productions
		m.Prods[i] = api.DefProd{Sort: "S" + strconv.Itoa(i), Right: []api.DefSym{{Name: "S" + strconv.Itoa(i+1)}}}
	}
	m.Start, m.Prods[len(m.Prods)-1].Cons, m.Prods[len(m.Prods)-1].Right = "S0", "C", nil
	if g := made(t, m); len(g.Sorts) != api.MaxProds || len(g.Prods) != api.MaxProds {
		t.Errorf("P7.1: Make of a chain: %d sorts, %d productions", len(g.Sorts), len(g.Prods))
	}
}

func TestTooManySymbols(t *testing.T) {
	const none, gaps = "start E; lexical L = [l]; syntax E.L = L; ", "start E; layout L; lexical L = [l]; "
	symbols := func(n int, one string) string { return strings.Repeat(one+" ", n) }
	half := (api.MaxRight + 1) / 2
	made(t, read(none+"syntax E.A = "+symbols(api.MaxRight, "E")+";"))
	made(t, read(gaps+"syntax E.A = "+symbols(half, "L")+";"))
	checkRefused(t, read(gaps+"syntax E.A = "+symbols(half+1, "L")+";"), api.ErrLong)
	checkRefused(t, read(gaps+"syntax E.A = "+symbols(half+1, "[a]")+";"), api.ErrLong)
	made(t, read(gaps+"syntax E.A =; lexical L = "+symbols(api.MaxRight, "[l]")+";")) // no gaps in lexical productions
	made(t, read(gaps+`syntax E.A = "`+symbols(half, "l")+`";`))                      // nor in literals
	// A rejecting production has the bytes of its literals.
	made(t, read(none+`lexical L = "`+strings.Repeat("l", api.MaxRight)+`" (reject);`))
	made(t, read(none+`lexical L = "`+strings.Repeat("l", api.MaxRight-3)+`" [l] "ll" (reject);`))
	checkRefused(t, read(none+`lexical L = "`+strings.Repeat("l", api.MaxRight)+`" [l] (reject);`), api.ErrLong)
	checkRefused(t, read(none+`lexical L = "`+strings.Repeat("l", api.MaxRight-1)+`" "ll" (reject);`), api.ErrLong)
	// Flaws are ahead, but for the last two kinds.
	long := gaps + "syntax E.A = " + symbols(half+1, "L") + "; "
	checkFlaws(t, read(long+"scope E.B { }"), flawsOf([]string{"prio E.B"})...)
	checkRefused(t, read(long+"syntax D.D = D;"), api.ErrLong)
	checkRefused(t, read(long+"lexical A = [a];"), api.ErrLong)
	checkRefused(t, read(strings.Replace(long, "E.A = L", "E.A = E", 1)), api.ErrLong)
}

// The longest name of a made sort is one that a kernel grammar may have.
func TestLongestName(t *testing.T) {
	var set api.Set
	for b := range 256 {
		if b%3 > 0 && b > 64 {
			set = sets.Union(set, sets.Of(byte(b)))
		}
	}
	m := read("start E; lexical E =;")
	m.Prods[0].Right = []api.DefSym{{Is: api.DefSet, Set: set, Many: api.ManyStar, Sep: strings.Repeat("\x80", api.MaxRight)}}
	g := made(t, m)
	if name := "~" + sets.Text(set) + `+"` + strings.Repeat(`\x80`, api.MaxRight) + `"`; g.Sorts[len(g.Sorts)-1] != name || len(name) < 500 {
		t.Errorf("P7.1: Make: %q", g.Sorts)
	}
}
