package normal_test

import (
	"fmt"
	"reflect"
	"slices"
	"strconv"
	"strings"
	"testing"

	"rosetta/api"
	"rosetta/deftext"
	"rosetta/kernel"
	"rosetta/normal"
	"rosetta/sets"
)

// The calls' signatures, as the chapter lists them.
var (
	_ func(api.Module) (api.Grammar, api.Errno)              = normal.Make
	_ func(api.Module) ([]api.Flaw, api.Errno)               = normal.Flaws
	_ func(api.Module, api.Grammar, int) (api.DefProd, bool) = normal.Source
	_ func(api.Module) []string                              = normal.Lexical
)

// brief tells a value, cut short.
func brief(v any) string {
	s := fmt.Sprintf("%+v", v)
	return s[:min(len(s), 900)]
}

// read tells the module M that a text says.
func read(text string) api.Module {
	m, at, e := deftext.Parse("module M; " + text)
	if e != api.OK {
		panic(fmt.Sprint(text, at, e))
	}
	return m
}

// roles are the roles' words, in their order.
var roles = strings.Fields("cons inject lexical literal none some one more gap layout start reject")

// told tells all of a grammar but its sorts, a line each: productions by names, with role, marks and From (of a made one none); then what is forbidden, by numbers; then what may not follow.
func told(g api.Grammar) []string {
	var out []string
	for _, p := range g.Prods {
		words := []string{g.Sorts[p.Left] + "." + p.Cons, "="}
		if p.Cons == "" {
			words[0] = g.Sorts[p.Left]
		}
		for _, s := range p.Right {
			if s.Kind == api.SymSort {
				words = append(words, g.Sorts[s.Sort])
			} else {
				words = append(words, sets.Text(s.Set))
			}
		}
		words = append(words, ":", roles[p.Role])
		if p.Prefer {
			words = append(words, "prefer")
		}
		if p.Avoid {
			words = append(words, "avoid")
		}
		if p.From != -1 {
			words = append(words, strconv.Itoa(p.From))
		}
		out = append(out, strings.Join(words, " "))
	}
	for _, f := range g.Forbid {
		out = append(out, fmt.Sprint("forbid ", f.Parent, " ", f.At, " ", f.Child))
	}
	for _, f := range g.Follow {
		out = append(out, fmt.Sprint("follow ", g.Sorts[f.Sort], " ", sets.Text(f.Not)))
	}
	return out
}

// made tells the grammar of a definition, which is well formed.
func made(t *testing.T, m api.Module) api.Grammar {
	t.Helper()
	g, e := normal.Make(m)
	if e != api.OK {
		l, f := normal.Flaws(m)
		t.Fatalf("P7.1: Make(%s): %v %v %v", brief(m), e, l, f)
	}
	if l, f := normal.Flaws(m); len(l) != 0 || f != api.OK {
		t.Errorf("P7.1: Flaws(%s): %v %v", brief(m), l, f)
	}
	if e, n := kernel.Well(g); e != api.OK || n != 0 {
		t.Errorf("P7.1: Make(%s) is not well formed: %v %d", brief(m), e, n)
	}
	if g.Start != 0 || g.Sorts[0] != "<start>" {
		t.Errorf("P7.1: Make(%s): Start %d of %q", brief(m), g.Start, g.Sorts)
	}
	return g
}

// checkMake asks that a definition's grammar has these sorts, and is told so.
func checkMake(t *testing.T, text, sorts string, want ...string) {
	t.Helper()
	g := made(t, read(text))
	if got := strings.Join(g.Sorts, " "); got != sorts {
		t.Errorf("P7.1: Make(%s): sorts\n%s, want\n%s", text, got, sorts)
	}
	if got := told(g); !slices.Equal(got, want) {
		t.Errorf("P7.1: Make(%s):\n%s\nwant\n%s", text, strings.Join(got, "\n"), strings.Join(want, "\n"))
	}
}

// checkFlaws asks for the flaws of a module, each told by its error's number and what it is of, and for Make's error.
func checkFlaws(t *testing.T, m api.Module, want ...api.Flaw) {
	t.Helper()
	l, e := normal.Flaws(m)
	if e != api.OK || !slices.Equal(l, want) {
		t.Errorf("P7.1: Flaws(%s):\n%v %v, want\n%v", brief(m), l, e, want)
	}
	if g, e := normal.Make(m); e != want[0].Err || !reflect.DeepEqual(g, api.Grammar{}) {
		t.Errorf("P7.1: Make(%s): %s %v, want %v", brief(m), brief(g), e, want[0].Err)
	}
}

// checkRefused asks that both Make and Flaws answer an error, and nothing beside.
func checkRefused(t *testing.T, m api.Module, want api.Errno) {
	t.Helper()
	if l, e := normal.Flaws(m); len(l) != 0 || e != want {
		t.Errorf("P7.1: Flaws(%s): %v %v, want %v", brief(m), l, e, want)
	}
	if g, e := normal.Make(m); e != want || !reflect.DeepEqual(g, api.Grammar{}) {
		t.Errorf("P7.1: Make(%s): %s %v, want %v", brief(m), brief(g), e, want)
	}
}

const example = `start E; layout L; lexical L = [ ]+; syntax E.Add = E "+" E (left); syntax E.Num = N; lexical N = [0-9]+;`

// The chapter's own examples.
func TestExamples(t *testing.T) {
	checkMake(t, example, `<start> <gap> E L N "+" ~[0-9]+ ~[\x20]+`,
		"<start> = <gap> E <gap> : start",
		"<gap> = : gap", "<gap> = L : layout",
		`E.Add = E <gap> "+" <gap> E : cons 2`, "E.Num = N : cons 3",
		`L = ~[\x20]+ : lexical 0`,
		"N = ~[0-9]+ : lexical 1",
		`"+" = [+] : literal`,
		"~[0-9]+ = [0-9] : one", "~[0-9]+ = ~[0-9]+ [0-9] : more",
		`~[\x20]+ = [\x20] : one`, `~[\x20]+ = ~[\x20]+ [\x20] : more`,
		"forbid 3 5 3")
	checkFlaws(t, read(strings.Replace(example, "lexical L = [ ]+;", "", 1)), api.Flaw{Err: api.ErrSort, Of: "L"})
}

// The smallest definitions: a Start may be a syntax or a lexical sort.
func TestSmallest(t *testing.T) {
	checkMake(t, "start E; syntax E.A =;", "<start> E", "<start> = E : start", "E.A = : cons 0")
	checkMake(t, "start E; lexical E =;", "<start> E", "<start> = E : start", "E = : lexical 0")
	checkMake(t, "start E; lexical E = [a] [b-d];", "<start> E", "<start> = E : start", "E = [a] [b-d] : lexical 0")
	checkMake(t, "start E; layout E; lexical E = [a];", "<start> <gap> E", "<start> = <gap> E <gap> : start", "<gap> = : gap", "<gap> = E : layout", "E = [a] : lexical 0")
	checkMake(t, "start E; layout L; lexical L = [ ]; syntax E.A =;", "<start> <gap> E L", "<start> = <gap> E <gap> : start", "<gap> = : gap", "<gap> = L : layout", "E.A = : cons 1", `L = [\x20] : lexical 0`)
}

// Every kind of symbol: @ stands for what is many, ^ for what stands ahead of lists and options in lexical productions, & for what stands between two symbols.
func TestMadeSorts(t *testing.T) {
	kinds := []struct{ symbol, name, lines string }{
		{"@?", "^@?", "^@? = : none|^@? = @ : some"},
		{"@+", "^@+", "^@+ = @ : one|^@+ = ^@+ & @ : more"},
		{"@*", "^@*", "^@* = : none|^@* = ^@+ : some|^@+ = @ : one|^@+ = ^@+ & @ : more"},
		{`{ @ ";" }+`, `^@+";"`, `";" = [;] : literal|^@+";" = @ : one|^@+";" = ^@+";" & ";" & @ : more`},
		{`{ @ ";" }*`, `^@*";"`, `";" = [;] : literal|^@*";" = : none|^@*";" = ^@+";" : some|^@+";" = @ : one|^@+";" = ^@+";" & ";" & @ : more`},
		{`{ @ "\"\n" }*`, `^@*"\"\n"`, `"\"\n" = ["] [\n] : literal|^@*"\"\n" = : none|^@*"\"\n" = ^@+"\"\n" : some|^@+"\"\n" = @ : one|^@+"\"\n" = ^@+"\"\n" & "\"\n" & @ : more`},
		{"@", "@", ""},
	}
	things := []struct{ x, lines string }{
		{"N", ""}, {"[^a]", ""}, {`"a\x00b"`, `"a\x00b" = [a] [\x00] [b] : literal`}, {`";"`, `";" = [;] : literal`},
	}
	for _, kind := range kinds {
		for _, thing := range things {
			for i := range 4 {
				checkMadeSort(t, i%2 == 0, i < 2, thing.x, kind.symbol, kind.name, kind.lines, thing.lines)
			}
		}
	}
}

// checkMadeSort asks for the grammar of a definition that has one such symbol, and for the made productions in it.
func checkMadeSort(t *testing.T, lexical, layout bool, x, symbol, name string, lines ...string) {
	t.Helper()
	tilde, gap, prod, role := "", " ", "syntax E.C", " : cons"
	if lexical {
		tilde, prod, role = "~", "lexical E", " : lexical"
	} else if layout {
		gap = " <gap> "
	}
	put := strings.NewReplacer("@", x, "^", tilde, " & ", gap)
	want := []string{"<start> = E : start", strings.Fields(prod)[1] + " = " + put.Replace(name) + role}
	sorts := []string{"<start>", "E"}
	text := "start E; "
	if layout {
		want = []string{"<start> = <gap> E <gap> : start", "<gap> = : gap", "<gap> = L : layout", want[1], `L = [\x20] : lexical`}
		sorts = []string{"<start>", "<gap>", "E", "L"}
		text += "layout L; lexical L = [ ]; "
	}
	if x == "N" {
		want, sorts, text = append(want, "N = [n] : lexical"), append(sorts, "N"), text+"lexical N = [n]; "
	}
	text += prod + " = " + put.Replace(symbol) + ";"
	var own []string
	for i, l := range lines {
		if i == 0 {
			l = put.Replace(l)
		}
		own = append(own, strings.FieldsFunc(l, func(r rune) bool { return r == '|' })...)
	}
	left := func(line string) string { return line[:strings.Index(line, " = ")] }
	slices.SortStableFunc(own, func(a, b string) int { return strings.Compare(left(a), left(b)) })
	for _, line := range slices.Compact(own) { // a separator that is the thing, too, is one sort
		want = append(want, line)
		if sort := left(line); !slices.Contains(sorts, sort) {
			sorts = append(sorts, sort)
		}
	}
	g := made(t, read(text))
	got := told(g)
	for i := range got {
		got[i] = strings.TrimRight(got[i], " 0123456789")
	}
	if !slices.Equal(g.Sorts, sorts) || !slices.Equal(got, want) {
		t.Errorf("P7.1: Make(%s): %q\n%s\nwant %q\n%s", text, g.Sorts, strings.Join(got, "\n"), sorts, strings.Join(want, "\n"))
	}
}

// What several symbols ask for is made once; the same list in a lexical and in a syntax production is two.
func TestSharedSorts(t *testing.T) {
	checkMake(t, `start E; layout L; lexical L = [ ]; lexical N = N* "a" { "a" "," }+; syntax E.A = N* N+ N? "a"; syntax E.B = { "a" "," }* { "," "a" }* ",";`,
		`<start> <gap> E L N "," ","*"a" ","+"a" "a" "a"*"," "a"+"," N* N+ N? ~"a"+"," ~N* ~N+`,
		"<start> = <gap> E <gap> : start", "<gap> = : gap", "<gap> = L : layout",
		`E.A = N* <gap> N+ <gap> N? <gap> "a" : cons 2`, `E.B = "a"*"," <gap> ","*"a" <gap> "," : cons 3`,
		`L = [\x20] : lexical 0`, `N = ~N* "a" ~"a"+"," : lexical 1`,
		`"," = [,] : literal`,
		`","*"a" = : none`, `","*"a" = ","+"a" : some`,
		`","+"a" = "," : one`, `","+"a" = ","+"a" <gap> "a" <gap> "," : more`,
		`"a" = [a] : literal`,
		`"a"*"," = : none`, `"a"*"," = "a"+"," : some`,
		`"a"+"," = "a" : one`, `"a"+"," = "a"+"," <gap> "," <gap> "a" : more`,
		"N* = : none", "N* = N+ : some", "N+ = N : one", "N+ = N+ <gap> N : more", "N? = : none", "N? = N : some",
		`~"a"+"," = "a" : one`, `~"a"+"," = ~"a"+"," "," "a" : more`,
		"~N* = : none", "~N* = ~N+ : some", "~N+ = N : one", "~N+ = ~N+ N : more")
}

// Productions stand by sorts, of one sort in the definition's order; with roles, marks, and where they come from.
func TestProds(t *testing.T) {
	checkMake(t, `start S; syntax S.B = T S "b" (prefer); syntax S.A = [a] T (avoid, left); syntax S = "(" S ")" (bracket, prefer) as "(" 1 ")"; syntax S = T (right);
			lexical T = "t" [a] Z; lexical T = "x" [b] "yz" (reject); lexical T = [t]; lexical T = (reject); syntax S.Z = S; lexical Z = [z]; syntax A.A = S; syntax S = A (avoid);`,
		`<start> A S T Z "(" ")" "b" "t"`,
		"<start> = S : start",
		"A.A = S : cons 5",
		`S = "(" S ")" : inject prefer 6`, "S = A : inject avoid 7", "S = T : inject 8", "S.A = [a] T : cons avoid 9", `S.B = T S "b" : cons prefer 10`, "S.Z = S : cons 11",
		`T = "t" [a] Z : lexical 0`, "T = [x] [b] [y] [z] : reject 1", "T = : reject 2", "T = [t] : lexical 3",
		"Z = [z] : lexical 4",
		`"(" = [(] : literal`, `")" = [)] : literal`, `"b" = [b] : literal`, `"t" = [t] : literal`)
}
