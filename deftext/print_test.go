package deftext_test

import (
	"math"
	"math/rand"
	"reflect"
	"slices"
	"strconv"
	"strings"
	"testing"

	"rosetta/api"
	"rosetta/deflex"
	"rosetta/deftext"
	"rosetta/sets"
)

// told tells a module's text as the chapter lays it out.
func told(m api.Module) string {
	out := "module " + m.Name + ";\n"
	for _, i := range m.Imports {
		var pairs []string
		for _, r := range i.Renames {
			pairs = append(pairs, r.From+" = "+r.To)
		}
		out += "import " + i.Name + inBrackets(pairs) + ";\n"
	}
	if m.Start != "" {
		out += "start " + m.Start + ";\n"
	}
	if m.Layout != "" {
		out += "layout " + m.Layout + ";\n"
	}
	out += lines(m.Comments, func(s string) string { return "comment " + s + ";" })
	return out + lines(m.Prods, toldProd) + lines(m.Restricts, toldRestrict) + lines(m.Prios, toldPrio) + lines(m.Scopes, toldScope)
}

func inBrackets(l []string) string {
	if len(l) == 0 {
		return ""
	}
	return " (" + strings.Join(l, ", ") + ")"
}

func lines[T any](l []T, one func(T) string) string {
	var out strings.Builder
	for _, x := range l {
		out.WriteString(one(x) + "\n")
	}
	return out.String()
}

func toldProd(d api.DefProd) string {
	out := "syntax " + d.Sort
	if d.Lexical {
		out = "lexical " + d.Sort
	}
	if d.Cons != "" {
		out += "." + d.Cons
	}
	out += " ="
	for _, s := range d.Right {
		thing := []string{s.Name, deflex.Quote(s.Text), sets.Text(s.Set)}[s.Is]
		if s.Sep != "" {
			thing = "{ " + thing + " " + deflex.Quote(s.Sep) + " }"
		}
		out += " " + thing + []string{"", "?", "*", "+"}[s.Many]
	}
	var marks []string
	for i, stands := range []bool{d.Reject, d.Prefer, d.Avoid, d.Bracket, d.Assoc == api.AssocLeft, d.Assoc == api.AssocRight, d.Assoc == api.AssocNon} {
		if stands {
			marks = append(marks, strings.Fields("reject prefer avoid bracket left right non")[i])
		}
	}
	out += inBrackets(marks)
	for i, item := range d.Template {
		if i == 0 {
			out += " as"
		}
		switch {
		case item.Text != "":
			out += " " + deflex.Quote(item.Text)
		case item.Kid != 0:
			out += " " + strconv.Itoa(item.Kid)
		default:
			out += []string{"", " soft", " line", " in", " out"}[item.Break]
		}
	}
	return out + ";"
}

func toldRestrict(r api.DefRestrict) string {
	of := r.Name
	if of == "" {
		of = deflex.Quote(r.Text)
	}
	return "restrict " + of + " not " + sets.Text(r.Not) + ";"
}

func toldPrio(p api.DefPrio) string {
	var groups []string
	for _, g := range p.Groups {
		var names []string
		for _, n := range g.Names {
			names = append(names, n.Sort+"."+n.Cons)
		}
		groups = append(groups, []string{"", "left ", "right ", "non "}[g.Assoc]+strings.Join(names, " "))
	}
	return "priority " + strings.Join(groups, " > ") + ";"
}

func toldScope(s api.DefScope) string {
	own := map[bool]string{true: "own "}
	out := "scope " + s.Of.Sort + "." + s.Of.Cons + " {"
	for _, d := range s.Declares {
		out += " declare " + own[d.Own] + strconv.Itoa(d.Kid) + " " + d.Space + ";"
	}
	for _, u := range s.Uses {
		out += " use " + own[u.Own] + strconv.Itoa(u.Kid) + " " + u.Space + ";"
	}
	for i, n := range s.Inner {
		if i == 0 {
			out += " inner"
		}
		out += " " + strconv.Itoa(n)
		if i == len(s.Inner)-1 {
			out += ";"
		}
	}
	return out + " }"
}

// checkPrint asks that a module is told as a text, and read off it again.
func checkPrint(t *testing.T, m api.Module, want string) {
	t.Helper()
	if e := deftext.Check(m); e != api.OK {
		t.Errorf("P4.2: Check(%s): %v", brief(m), e)
	}
	s, e := deftext.Print(m)
	if s != want || e != api.OK {
		t.Errorf("P4.2: Print(%s): %q %v, want %q", brief(m), brief(s), e, brief(want))
		return
	}
	again, at, e := deftext.Parse(s)
	if at != 0 || e != api.OK || !deftext.Same(m, again) {
		t.Errorf("P4.5: Parse of Print(%s): %s %d %v", brief(m), brief(again), at, e)
	}
	if s, e := deftext.Print(again); s != want || e != api.OK {
		t.Errorf("P4.5: Print of Parse(%q): %q %v", brief(want), brief(s), e)
	}
}

func TestPrint(t *testing.T) {
	checkPrint(t, api.Module{Name: "M"}, "module M;\n")
	checkPrint(t, api.Module{Name: "M", Imports: []api.DefImport{}, Comments: []string{}, Prods: []api.DefProd{}, Restricts: []api.DefRestrict{}, Prios: []api.DefPrio{}, Scopes: []api.DefScope{}}, "module M;\n")
	checkPrint(t, api.Module{Name: "M", Prods: []api.DefProd{{Sort: "S", Right: []api.DefSym{}, Template: []api.DefItem{}}}, Imports: []api.DefImport{{Name: "N", Renames: []api.DefRename{}}}}, "module M;\nimport N;\nsyntax S =;\n")
	checkPrint(t, api.Module{Name: "M", Scopes: []api.DefScope{{Of: cons("A.B"), Declares: []api.DefDeclare{}, Uses: []api.DefUse{}, Inner: []int{}}}}, "module M;\nscope A.B { }\n")
	m, _, _ := deftext.Parse(`module M; syntax S.A = "x" { T "," }* U? (left, prefer) as 1 soft "y";`)
	checkPrint(t, m, "module M;\nsyntax S.A = \"x\" { T \",\" }* U? (prefer, left) as 1 soft \"y\";\n")
	m, _, _ = deftext.Parse(`scope`)
	if s, e := deftext.Print(m); s != "" || e != api.ErrArg {
		t.Errorf("P4.2: Print of no module: %q %v", s, e)
	}
	m, _, _ = deftext.Parse(`module M; scope S.Let { inner 2; use own 2 Var; inner 3; declare 1 Var; } priority left E.Mul E.Div > E.If; restrict "a\x41" not [\x61-c]; lexical L = "a" [b]* C+ (reject);
		comment C; comment B; layout L; start S; import N (A = B, C = D); import M;`)
	checkPrint(t, m, "module M;\nimport N (A = B, C = D);\nimport M;\nstart S;\nlayout L;\ncomment C;\ncomment B;\nlexical L = \"a\" [b]* C+ (reject);\nrestrict \"aA\" not [a-c];\npriority left E.Mul E.Div > E.If;\nscope S.Let { declare 1 Var; use own 2 Var; inner 2 3; }\n")
}

func TestPieces(t *testing.T) {
	for _, want := range []string{
		`lexical S = [a-z] Tail* (reject);`, `syntax S.Cons = "if " { Stm ";" }* (prefer, bracket, left) as "if " 1 in soft 2 out;`, `syntax S =;`, `lexical S =;`, `lexical S = (reject);`, `syntax S.C =;`, `syntax S = (avoid);`, `syntax S = as 1;`, `syntax S.C = (non) as line;`,
		`syntax S = ";" "," "?"? "*"* "+"+ ")" "(" { "(" ")" }* { [;] "." }+ "." ".";`, `lexical S = []? [^]* [(]+ { [] "(" }+;`, `lexical S = A? A* A+;`, `syntax S = (prefer, bracket, right) as ";" "," ")" 1 ";";`,
		`restrict Id not [a-z];`, `restrict ";" not [];`, `restrict "(" not [^];`, `priority left E.Mul E.Div > E.If;`, `priority A.B;`, `priority non A.B > right A.C A.D;`,
		`scope S.Let { declare 1 Var; use own 2 Var; inner 2 3; }`, `scope S.A { }`, `scope S.A { inner 30; }`, `scope S.A { declare own 30 V; declare 1 V; }`, `scope S.A { use 1 V; use 1 V; }`,
	} {
		m, at, e := deftext.Parse("module M; " + want)
		if e != api.OK {
			t.Fatal(want, at, e)
		}
		got := ""
		switch {
		case len(m.Prods) == 1:
			got = deftext.Prod(m.Prods[0])
		case len(m.Restricts) == 1:
			got = deftext.Restrict(m.Restricts[0])
		case len(m.Prios) == 1:
			got = deftext.Prio(m.Prios[0])
		case len(m.Scopes) == 1:
			got = deftext.Scope(m.Scopes[0])
		}
		if got != want {
			t.Errorf("P4.3: the text of %+v: %q, want %q", m, got, want)
		}
		checkPrint(t, m, "module M;\n"+want+"\n")
	}
}

func TestQuote(t *testing.T) {
	all := ""
	for b := range 256 {
		one := string([]byte{byte(b)})
		all += one
		if deftext.Quote(one) != deflex.Quote(one) {
			t.Errorf("P4.3: Quote of byte %d: %q", b, deftext.Quote(one))
		}
	}
	if s := deftext.Quote(all); s != deflex.Quote(all) {
		t.Errorf("P4.3: Quote of all bytes: %q", s)
	}
	if s := deftext.Quote("a\"\n\x07\xc8"); s != `"a\"\n\x07\xc8"` || deftext.Quote("") != `""` {
		t.Errorf("P4.3: Quote: %q", s)
	}
}

func TestPrintAsSlow(t *testing.T) {
	die := rand.New(rand.NewSource(44))
	for range 4_000 {
		m := randomModule(die)
		checkPrint(t, m, told(m))
		for _, d := range m.Prods {
			checkPiece(t, "Prod", deftext.Prod(d), toldProd(d))
		}
		for _, r := range m.Restricts {
			checkPiece(t, "Restrict", deftext.Restrict(r), toldRestrict(r))
		}
		for _, p := range m.Prios {
			checkPiece(t, "Prio", deftext.Prio(p), toldPrio(p))
		}
		for _, s := range m.Scopes {
			checkPiece(t, "Scope", deftext.Scope(s), toldScope(s))
		}
	}
}

func checkPiece(t *testing.T, call, got, want string) {
	t.Helper()
	if got != want {
		t.Errorf("P4.3: %s: %q, want %q", call, brief(got), brief(want))
	}
}

// padded tells a module whose text has a number of bytes.
func padded(length int) api.Module {
	m := api.Module{Name: "M"}
	long := strings.Repeat("a", 64)
	left := length - len("module M;\n")
	full := api.DefProd{Sort: "S", Right: slices.Repeat([]api.DefSym{sort(long)}, 30)}
	for one := len(toldProd(full)) + 1; left > one+100; left -= one {
		m.Prods = append(m.Prods, full)
	}
	for least := len("comment ;\n"); left > 0; {
		name := long[:min(64, left-least)]
		if rest := left - least - len(name); rest > 0 && rest <= least {
			name = name[least:] // so that there is room for one more
		}
		m.Comments = append(m.Comments, name)
		left -= least + len(name)
	}
	return m
}

func TestPrintLong(t *testing.T) {
	for length := api.MaxText - 15; length <= api.MaxText+15; length++ {
		m := padded(length)
		if n := len(told(m)); n != length {
			t.Fatalf("padded to %d: %d", length, n)
		}
		s, e := deftext.Print(m)
		switch {
		case deftext.Check(m) != api.OK:
			t.Fatalf("P4.2: Check of a text of %d bytes: %v", length, deftext.Check(m))
		case length > api.MaxText && (s != "" || e != api.ErrLong):
			t.Fatalf("P4.2: Print of %d bytes: %d bytes %v", length, len(s), e)
		case length <= api.MaxText && (s != told(m) || e != api.OK):
			t.Fatalf("P4.2: Print of %d bytes: %d bytes %v", length, len(s), e)
		}
	}
	checkPrint(t, padded(api.MaxText), told(padded(api.MaxText)))
	m := padded(api.MaxText + 1)
	m.Scopes = []api.DefScope{{}} // what may not be counts ahead of what is too long
	if s, e := deftext.Print(m); s != "" || e != api.ErrArg || deftext.Check(m) != api.ErrArg {
		t.Errorf("P4.2: Print of a long module that may not be: %d bytes %v", len(s), e)
	}
	group := api.DefGroup{Names: slices.Repeat(conses(strings.Repeat("n", 64)+".C"), 1000)}
	prio := api.DefPrio{Groups: slices.Repeat([]api.DefGroup{group}, 100)}
	if s := deftext.Prio(prio); s != toldPrio(prio) || len(s) < 6_000_000 {
		t.Errorf("P4.3: Prio of a long one: %d bytes", len(s))
	}
	if s, e := deftext.Print(api.Module{Name: "M", Prios: slices.Repeat([]api.DefPrio{prio}, 10)}); s != "" || e != api.ErrLong {
		t.Errorf("P4.2: Print of a long priority: %d bytes %v", len(s), e)
	}
}

// Each piece of small fields: those have a text that are read off one, each its own.
func TestPiecesAllSmall(t *testing.T) {
	names := []string{"", "A", "as", "1", "A ", strings.Repeat("n", 65)}
	quoted := []string{"", "x", strings.Repeat("y", 30), strings.Repeat("y", 31)}
	setsOf := []api.Set{{}, sets.Of('a')}
	var symbols []api.DefSym
	for is := api.DefIs(-1); is <= 3; is++ {
		for m := api.DefMany(-1); m <= 4; m++ {
			for _, s := range setsOf {
				for _, name := range names {
					for _, lit := range quoted {
						for _, sep := range quoted {
							symbols = append(symbols, api.DefSym{Is: is, Name: name, Text: lit, Set: s, Many: m, Sep: sep})
						}
					}
				}
			}
		}
	}
	symbols = append(symbols, api.DefSym{Is: math.MaxInt, Name: "A"}, api.DefSym{Is: math.MinInt, Name: "A"}, api.DefSym{Name: "A", Many: math.MaxInt}, api.DefSym{Name: "A", Many: math.MinInt})
	checkAll(t, symbols, 5*(2+2+4), func(s api.DefSym) (string, bool) { // A, x, y.., [], [a]; once or not; often with no Sep, x, y..
		text := deftext.Prod(api.DefProd{Sort: "S", Right: []api.DefSym{s}})
		m, _, _ := deftext.Parse("module M; " + text)
		return text, len(m.Prods) == 1 && len(m.Prods[0].Right) == 1 && m.Prods[0].Right[0] == s
	})
	var items []api.DefItem
	for _, s := range quoted {
		for _, kid := range []int{0, -1, 1, 30, 31, math.MaxInt, math.MinInt} {
			for _, brk := range []int{0, -1, 1, 2, 3, 4, 5, math.MaxInt, math.MinInt} {
				items = append(items, api.DefItem{Text: s, Kid: kid, Break: brk})
			}
		}
	}
	checkAll(t, items, 2+2+4, func(i api.DefItem) (string, bool) {
		text := deftext.Prod(api.DefProd{Sort: "S", Template: []api.DefItem{i}})
		m, _, _ := deftext.Parse("module M; " + text)
		return text, len(m.Prods) == 1 && len(m.Prods[0].Template) == 1 && m.Prods[0].Template[0] == i
	})
	var restricts []api.DefRestrict
	for _, s := range setsOf {
		for _, name := range names {
			for _, text := range quoted {
				restricts = append(restricts, api.DefRestrict{Name: name, Text: text, Not: s})
			}
		}
	}
	checkAll(t, restricts, 2*3, func(r api.DefRestrict) (string, bool) {
		text := deftext.Restrict(r)
		m, _, _ := deftext.Parse("module M; " + text)
		return text, len(m.Restricts) == 1 && m.Restricts[0] == r
	})
}

// checkAll asks that as many pieces as may be have a text, which they are read off, and no two have one.
func checkAll[T any](t *testing.T, pieces []T, mayBe int, tell func(T) (text string, isReadAgain bool)) {
	t.Helper()
	seen := map[string]bool{}
	for _, piece := range pieces {
		text, again := tell(piece)
		if text == "" {
			continue
		}
		if seen[text] || !again {
			t.Errorf("P4.5: the text of %+v: %q, told twice: %v, read again: %v", piece, text, seen[text], again)
		}
		seen[text] = true
	}
	if len(seen) != mayBe {
		t.Errorf("P4.3: %d of %T that may be, want %d", len(seen), pieces, mayBe)
	}
}

func TestProdsAllSmall(t *testing.T) {
	var prods []api.DefProd
	for bits := range 32 {
		for a := api.Assoc(-1); a <= 4; a++ {
			for _, name := range []string{"", "C", "left", "C.D"} {
				for _, right := range [][]api.DefSym{nil, {lit("x")}, {lit("")}} {
					for _, template := range [][]api.DefItem{nil, {brk(1)}, {{}}} {
						for _, sort := range []string{"", "S", "in"} {
							prods = append(prods, api.DefProd{Lexical: bits&1 > 0, Reject: bits&2 > 0, Prefer: bits&4 > 0, Avoid: bits&8 > 0, Bracket: bits&16 > 0, Assoc: a, Cons: name, Sort: sort, Right: right, Template: template})
						}
					}
				}
			}
		}
	}
	checkAll(t, prods, 2*2+2*2*2*3*2*4, func(d api.DefProd) (string, bool) {
		text := deftext.Prod(d)
		m, _, _ := deftext.Parse("module M; " + text)
		return text, len(m.Prods) == 1 && reflect.DeepEqual(m.Prods[0], d)
	})
}

func TestScopesAllSmall(t *testing.T) {
	var scopes []api.DefScope
	for _, of := range []string{".", "A.", ".A", "A.B", "A.own", "own.A"} {
		for _, n := range []int{-1, 0, 1, 30, 31, math.MaxInt, math.MinInt} {
			for _, name := range []string{"", "V", "use"} {
				for _, own := range []bool{false, true} {
					scopes = append(scopes,
						api.DefScope{Of: cons(of), Declares: []api.DefDeclare{{Kid: n, Space: name, Own: own}}},
						api.DefScope{Of: cons(of), Uses: []api.DefUse{{Kid: n, Space: name, Own: own}}})
				}
			}
			scopes = append(scopes, api.DefScope{Of: cons(of), Inner: []int{n}}, api.DefScope{Of: cons(of), Inner: []int{1, n, 2}})
		}
		scopes = append(scopes, api.DefScope{Of: cons(of)})
	}
	checkAll(t, scopes, 4+4+2+2+1, func(s api.DefScope) (string, bool) {
		text := deftext.Scope(s)
		m, _, _ := deftext.Parse("module M; " + text)
		return text, len(m.Scopes) == 1 && reflect.DeepEqual(m.Scopes[0], s)
	})
	var prios []api.DefPrio
	groups := []api.DefGroup{{}}
	for a := api.Assoc(-1); a <= 4; a++ {
		for _, names := range []string{"", "A.B", "A.", ".B", "non.B", "A.non", "A.B A.B", "A.B ."} {
			groups = append(groups, api.DefGroup{Names: conses(names), Assoc: a})
		}
	}
	prios = append(prios, api.DefPrio{})
	for _, g := range groups {
		prios = append(prios, api.DefPrio{Groups: []api.DefGroup{g}})
		for _, h := range groups {
			prios = append(prios, api.DefPrio{Groups: []api.DefGroup{g, h}})
		}
	}
	checkAll(t, prios, 4*2+4*2*4*2, func(p api.DefPrio) (string, bool) {
		text := deftext.Prio(p)
		m, _, _ := deftext.Parse("module M; " + text)
		return text, len(m.Prios) == 1 && reflect.DeepEqual(m.Prios[0], p)
	})
}
