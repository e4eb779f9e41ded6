package deftext_test

import (
	"fmt"
	"math/rand"
	"reflect"
	"strings"
	"testing"

	"rosetta/api"
	"rosetta/deftext"
	"rosetta/sets"
)

// The calls' signatures, as the chapter lists them.
var (
	_ func(string) (api.Module, int, api.Errno) = deftext.Parse
	_ func(api.Module) api.Errno                = deftext.Check
	_ func(api.Module) (string, api.Errno)      = deftext.Print
	_ func(api.Module, api.Module) bool         = deftext.Same
	_ func(api.DefProd) string                  = deftext.Prod
	_ func(api.DefRestrict) string              = deftext.Restrict
	_ func(api.DefPrio) string                  = deftext.Prio
	_ func(api.DefScope) string                 = deftext.Scope
	_ func(string) string                       = deftext.Quote
)

// brief tells a value, cut short.
func brief(v any) string {
	s := fmt.Sprintf("%+v", v)
	return s[:min(len(s), 600)]
}

// checkParse asks that a text's module is this one.
func checkParse(t *testing.T, text string, want api.Module) {
	t.Helper()
	m, at, e := deftext.Parse(text)
	if at != 0 || e != api.OK || !reflect.DeepEqual(m, want) {
		t.Errorf("P4.1: Parse(%q): %s %d %v, want %s", brief(text), brief(m), at, e, brief(want))
	}
}

// checkRefused asks that a text is refused, at a place.
func checkRefused(t *testing.T, text string, place int, want api.Errno) {
	t.Helper()
	m, at, e := deftext.Parse(text)
	if at != place || e != want || !reflect.DeepEqual(m, api.Module{}) {
		t.Errorf("P4.1: Parse(%q): %s %d %v, want %d %v", brief(text), brief(m), at, e, place, want)
	}
}

// checkMarked asks that a text is refused at the place where a $ stands in it, which is left out.
func checkMarked(t *testing.T, text string, want api.Errno) {
	t.Helper()
	ahead, behind, _ := strings.Cut(text, "$")
	checkRefused(t, ahead+behind, len(ahead), want)
}

func read(text string) api.Set {
	s, err := sets.Read(text)
	if err != api.OK {
		panic(text)
	}
	return s
}

func sort(name string) api.DefSym { return api.DefSym{Is: api.DefSort, Name: name} }
func lit(text string) api.DefSym  { return api.DefSym{Is: api.DefLit, Text: text} }
func set(text string) api.DefSym  { return api.DefSym{Is: api.DefSet, Set: read(text)} }

func many(s api.DefSym, m api.DefMany, sep string) api.DefSym {
	s.Many, s.Sep = m, sep
	return s
}

func text(s string) api.DefItem { return api.DefItem{Text: s} }
func kid(n int) api.DefItem     { return api.DefItem{Kid: n} }
func brk(n int) api.DefItem     { return api.DefItem{Break: n} }

func cons(name string) api.DefName {
	sort, cons, _ := strings.Cut(name, ".")
	return api.DefName{Sort: sort, Cons: cons}
}

func conses(names string) []api.DefName {
	var out []api.DefName
	for _, n := range strings.Fields(names) {
		out = append(out, cons(n))
	}
	return out
}

// Each part alone: what does not stand there is zero.
func TestParseParts(t *testing.T) {
	long := strings.Repeat("aB_9", 16) // 64 bytes
	for text, want := range map[string]api.Module{
		``:                                      {},
		` // x`:                                 {},
		`import N;`:                             {Imports: []api.DefImport{{Name: "N"}}},
		`import N (A = B);`:                     {Imports: []api.DefImport{{Name: "N", Renames: []api.DefRename{{From: "A", To: "B"}}}}},
		`import N(A=B,C=D);import N;`:           {Imports: []api.DefImport{{Name: "N", Renames: []api.DefRename{{From: "A", To: "B"}, {From: "C", To: "D"}}}, {Name: "N"}}},
		`import N (A = A, A = B);`:              {Imports: []api.DefImport{{Name: "N", Renames: []api.DefRename{{From: "A", To: "A"}, {From: "A", To: "B"}}}}},
		`start S;`:                              {Start: "S"},
		`layout L;`:                             {Layout: "L"},
		`start S; layout S;`:                    {Start: "S", Layout: "S"},
		`layout ` + long + `;start S;`:          {Start: "S", Layout: long},
		`comment C;`:                            {Comments: []string{"C"}},
		`comment C; start S; comment C;`:        {Start: "S", Comments: []string{"C", "C"}},
		`comment B; comment A;`:                 {Comments: []string{"B", "A"}},
		`restrict Id not [a-z];`:                {Restricts: []api.DefRestrict{{Name: "Id", Not: read("[a-z]")}}},
		`restrict "if" not [];`:                 {Restricts: []api.DefRestrict{{Text: "if"}}},
		`restrict"if"not[^];restrict I not[^];`: {Restricts: []api.DefRestrict{{Text: "if", Not: sets.All()}, {Name: "I", Not: sets.All()}}},
		`priority A.B;`:                         {Prios: []api.DefPrio{{Groups: []api.DefGroup{{Names: conses("A.B")}}}}},
		`priority A . B A.B C.D;`:               {Prios: []api.DefPrio{{Groups: []api.DefGroup{{Names: conses("A.B A.B C.D")}}}}},
		`priority left A.B > right A.C A.D > non A.E > A.F;`: {Prios: []api.DefPrio{{Groups: []api.DefGroup{{Names: conses("A.B"), Assoc: api.AssocLeft}, {Names: conses("A.C A.D"), Assoc: api.AssocRight}, {Names: conses("A.E"), Assoc: api.AssocNon}, {Names: conses("A.F")}}}}},
		`priority A.B; priority A.B > A.B;`:                  {Prios: []api.DefPrio{{Groups: []api.DefGroup{{Names: conses("A.B")}}}, {Groups: []api.DefGroup{{Names: conses("A.B")}, {Names: conses("A.B")}}}}},
		`scope A.B { }`:                                      {Scopes: []api.DefScope{{Of: cons("A.B")}}},
		`scope A.B{}scope A.B{inner 1;}`:                     {Scopes: []api.DefScope{{Of: cons("A.B")}, {Of: cons("A.B"), Inner: []int{1}}}},
		`scope A.B { declare 1 V; }`:                         {Scopes: []api.DefScope{{Of: cons("A.B"), Declares: []api.DefDeclare{{Kid: 1, Space: "V"}}}}},
		`scope A.B { use own 30 V; }`:                        {Scopes: []api.DefScope{{Of: cons("A.B"), Uses: []api.DefUse{{Kid: 30, Space: "V", Own: true}}}}},
		`scope A.B { inner 3 2; use 1 V; inner 2; declare own 4 W; use own 2 W; declare 1 V; inner 30 1; }`: {Scopes: []api.DefScope{{
			Of:       cons("A.B"),
			Declares: []api.DefDeclare{{Kid: 4, Space: "W", Own: true}, {Kid: 1, Space: "V"}},
			Uses:     []api.DefUse{{Kid: 1, Space: "V"}, {Kid: 2, Space: "W", Own: true}},
			Inner:    []int{3, 2, 2, 30, 1},
		}}},
	} {
		want.Name = "M"
		checkParse(t, "module M; "+text, want)
		checkParse(t, "module M;"+text, want)
		want.Name = long
		checkParse(t, "//\nmodule "+long+"\n;\t"+text, want)
	}
}

func TestParseProductions(t *testing.T) {
	x := []api.DefSym{sort("X")}
	for text, want := range map[string]api.DefProd{
		`lexical S =;`:                                              {Lexical: true, Sort: "S"},
		`lexical S = (reject);`:                                     {Lexical: true, Sort: "S", Reject: true},
		`lexical S = X (reject);`:                                   {Lexical: true, Sort: "S", Right: x, Reject: true},
		`lexical S = [a-z] Tail*;`:                                  {Lexical: true, Sort: "S", Right: []api.DefSym{set("[a-z]"), many(sort("Tail"), api.ManyStar, "")}},
		`lexical S = []?"\x00"+[^]*;`:                               {Lexical: true, Sort: "S", Right: []api.DefSym{many(set("[]"), api.ManyOpt, ""), many(lit("\x00"), api.ManyPlus, ""), many(set("[^]"), api.ManyStar, "")}},
		`lexical S = {[a]"b"}+{"c" "d"}*{e"f"}*;`:                   {Lexical: true, Sort: "S", Right: []api.DefSym{many(set("[a]"), api.ManyPlus, "b"), many(lit("c"), api.ManyStar, "d"), many(sort("e"), api.ManyStar, "f")}},
		`syntax S =;`:                                               {Sort: "S"},
		`syntax S.C =;`:                                             {Sort: "S", Cons: "C"},
		`syntax S . S = S S;`:                                       {Sort: "S", Cons: "S", Right: []api.DefSym{sort("S"), sort("S")}},
		`syntax S = X? X* X+ X;`:                                    {Sort: "S", Right: []api.DefSym{many(sort("X"), api.ManyOpt, ""), many(sort("X"), api.ManyStar, ""), many(sort("X"), api.ManyPlus, ""), sort("X")}},
		`syntax S = X (prefer);`:                                    {Sort: "S", Right: x, Prefer: true},
		`syntax S = X (avoid);`:                                     {Sort: "S", Right: x, Avoid: true},
		`syntax S = X (bracket);`:                                   {Sort: "S", Right: x, Bracket: true},
		`syntax S = X (left);`:                                      {Sort: "S", Right: x, Assoc: api.AssocLeft},
		`syntax S = X (right);`:                                     {Sort: "S", Right: x, Assoc: api.AssocRight},
		`syntax S = X (non);`:                                       {Sort: "S", Right: x, Assoc: api.AssocNon},
		`syntax S = as 1;`:                                          {Sort: "S", Template: []api.DefItem{kid(1)}},
		`syntax S = X (avoid) as "X";`:                              {Sort: "S", Right: x, Avoid: true, Template: []api.DefItem{text("X")}},
		`syntax S = as soft line in out;`:                           {Sort: "S", Template: []api.DefItem{brk(1), brk(2), brk(3), brk(4)}},
		`syntax S = as 30 "in" in 1 1 "1";`:                         {Sort: "S", Template: []api.DefItem{kid(30), text("in"), brk(3), kid(1), kid(1), text("1")}},
		`syntax S = "left" "(" ")" ";" "as" (left) as "(" ")" ";";`: {Sort: "S", Right: []api.DefSym{lit("left"), lit("("), lit(")"), lit(";"), lit("as")}, Assoc: api.AssocLeft, Template: []api.DefItem{text("("), text(")"), text(";")}},
		`syntax Lexical.Reject = Prefer LEFT as_ _in;`:              {Sort: "Lexical", Cons: "Reject", Right: []api.DefSym{sort("Prefer"), sort("LEFT"), sort("as_"), sort("_in")}},
	} {
		checkParse(t, "module M; "+text, api.Module{Name: "M", Prods: []api.DefProd{want}})
		checkParse(t, "module M; "+text+text, api.Module{Name: "M", Prods: []api.DefProd{want, want}})
	}
}

// The marks in each order, and each behind one that shuts it out.
func TestParseMarks(t *testing.T) {
	choices := map[string]api.DefProd{"": {}, "prefer": {Prefer: true}, "avoid": {Avoid: true}}
	brackets := map[string]api.DefProd{"": {}, "bracket": {Bracket: true}}
	orders := map[string]api.DefProd{"": {}, "left": {Assoc: api.AssocLeft}, "right": {Assoc: api.AssocRight}, "non": {Assoc: api.AssocNon}}
	for choice, c := range choices {
		for bracket, b := range brackets {
			for order, o := range orders {
				want := api.DefProd{Sort: "S", Prefer: c.Prefer, Avoid: c.Avoid, Bracket: b.Bracket, Assoc: o.Assoc}
				for _, marks := range [][]string{{choice, bracket, order}, {choice, order, bracket}, {bracket, choice, order}, {bracket, order, choice}, {order, choice, bracket}, {order, bracket, choice}} {
					told := strings.Join(strings.Fields(strings.Join(marks, " ")), ", ")
					if told == "" {
						checkMarked(t, "module M; syntax S = ($);", api.ErrDefine)
						continue
					}
					checkParse(t, "module M; syntax S = ("+told+");", api.Module{Name: "M", Prods: []api.DefProd{want}})
					checkMarked(t, "module M; syntax S = ("+told+"$;", api.ErrDefine)
					checkMarked(t, "module M; syntax S = ("+told+",$);", api.ErrDefine)
					for _, twice := range strings.Split(told, ", ") {
						for _, kind := range []string{"prefer avoid", "bracket", "left right non"} {
							for _, mark := range strings.Fields(kind) {
								if strings.Contains(kind, twice) {
									checkMarked(t, "module M; syntax S = ("+told+", $"+mark+");", api.ErrDefine)
								}
							}
						}
					}
				}
			}
		}
	}
	for _, mark := range []string{"prefer", "avoid", "bracket", "left", "right", "non"} {
		checkMarked(t, "module M; lexical S = ($"+mark+");", api.ErrDefine)
		checkMarked(t, "module M; lexical S = (reject$, "+mark+");", api.ErrDefine)
		checkMarked(t, "module M; syntax S = ("+mark+" $"+mark+");", api.ErrDefine)
		checkMarked(t, "module M; syntax S = ("+mark+", $reject);", api.ErrDefine)
		checkMarked(t, `module M; syntax S = ($"`+mark+`");`, api.ErrDefine)
	}
	checkMarked(t, "module M; syntax S = ($reject);", api.ErrDefine)
	checkMarked(t, "module M; lexical S = (reject$, reject);", api.ErrDefine)
}

// Where a name is wanted no reserved name stands, and nothing else.
func TestParseReserved(t *testing.T) {
	reserved := reservedNames()
	if len(reserved) != 27 {
		t.Fatalf("%d reserved names: %v", len(reserved), reserved)
	}
	m := newModel()
	for _, hole := range []string{
		"module $;", "module M; import $;", "module M; import N ($ = B);", "module M; import N (A = $);", "module M; import N (A = B, $ = D);",
		"module M; start $;", "module M; layout $;", "module M; comment $;", "module M; lexical $ =;", "module M; syntax $ =;", "module M; syntax $.C =;", "module M; syntax S.$ =;",
		`module M; lexical S = {$ ","}*;`, "module M; restrict $ not [];", "module M; priority $.B;", "module M; priority A.$;", "module M; priority left $.B;", "module M; priority A.B > non $.B;",
		"module M; scope $.B {}", "module M; scope A.$ {}", "module M; scope A.B { declare 1 $; }", "module M; scope A.B { use own 1 $; }",
		"module M; lexical S = $;", "module M; syntax S = $;", "module M; syntax S = A $;", "module M; priority A.B $.C;", "module M; priority A.B > $.C;",
	} {
		ahead, behind, _ := strings.Cut(hole, "$")
		for _, name := range reserved {
			text := ahead + name + behind
			at, err := m.slowFault(text)
			free := strings.Contains("left right non", name) && (strings.HasSuffix(ahead, "priority ") || strings.HasSuffix(ahead, "> ")) || name == "as" && strings.Contains(ahead, "syntax S =")
			if !free && (at != len(ahead) || err != api.ErrDefine) {
				t.Fatalf("the model of %q: %d %v", text, at, err)
			}
			checkRefused(t, text, at, err)
		}
		for _, name := range []string{"A", "_", "Module", "imports", "star", "modulE", "left_", strings.Repeat("n", 64)} {
			if _, _, e := deftext.Parse(ahead + name + behind); e != api.OK {
				t.Errorf("P4.1: Parse(%q): %v", ahead+name+behind, e)
			}
		}
		for _, word := range []string{"1", `"A"`, "[a]", ";", ".", "=", ",", "(", ")", "{", "}", ">", "?", "*", "+", "", "#", `"`, "01", strings.Repeat("n", 65)} {
			text := ahead + word + behind
			at, err := m.slowFault(text)
			if err == api.OK {
				continue
			}
			checkRefused(t, text, at, err)
		}
	}
}

func TestParseWrong(t *testing.T) {
	for text, want := range map[string]api.Errno{
		"$":                                      api.ErrDefine,
		" // module M;$":                         api.ErrDefine,
		"$start S;":                              api.ErrDefine,
		`$"module" M;`:                           api.ErrDefine,
		"module$":                                api.ErrDefine,
		"module \n$":                             api.ErrDefine,
		"module $start;":                         api.ErrDefine,
		"module M$":                              api.ErrDefine,
		"module M // ;\n$":                       api.ErrDefine,
		"module M $start S;":                     api.ErrDefine,
		"module M;$;":                            api.ErrDefine,
		"module M; $module N;":                   api.ErrDefine,
		"module M; $M":                           api.ErrDefine,
		`module M; $"start" S;`:                  api.ErrDefine,
		"module M; $#":                           api.ErrWord,
		"module M; start A; $start B; #":         api.ErrDefine, // ahead of what can't be read
		"module M; start A; $start# B;":          api.ErrDefine,
		"module M; start A; layout L; $start A;": api.ErrDefine,
		"module M; layout A; start L; $layout A;":       api.ErrDefine,
		"module M; start A; $start":                     api.ErrDefine,
		"module M; import N ($);":                       api.ErrDefine,
		"module M; import N (A = B$;":                   api.ErrDefine,
		"module M; import N (A $B);":                    api.ErrDefine,
		"module M; import N (A = B $C = D);":            api.ErrDefine,
		"module M; import N (A = B,$);":                 api.ErrDefine,
		"module M; import N $N;":                        api.ErrDefine,
		"module M; import N (A = B) $(A = B);":          api.ErrDefine,
		"module M; lexical S$;":                         api.ErrDefine,
		"module M; lexical S$.C =;":                     api.ErrDefine,
		"module M; lexical S = A ($);":                  api.ErrDefine,
		"module M; lexical S = A (reject) $(reject);":   api.ErrDefine,
		"module M; lexical S = A $as 1;":                api.ErrDefine,
		"module M; lexical S = A $1;":                   api.ErrDefine,
		"module M; lexical S = A?$?;":                   api.ErrDefine,
		"module M; lexical S = $?;":                     api.ErrDefine,
		"module M; lexical S = {A$}*;":                  api.ErrDefine,
		`module M; lexical S = {A$? ","}*;`:             api.ErrDefine,
		`module M; lexical S = {A ","$;`:                api.ErrDefine,
		`module M; lexical S = {A ","}$;`:               api.ErrDefine,
		`module M; lexical S = {A ","}$?;`:              api.ErrDefine,
		`module M; lexical S = {A $B}*;`:                api.ErrDefine,
		`module M; lexical S = {A $[,]}*;`:              api.ErrDefine,
		`module M; lexical S = {A ","}+$+;`:             api.ErrDefine,
		`module M; lexical S = {${A ","}+ ","}+;`:       api.ErrDefine,
		`module M; lexical S = $};`:                     api.ErrDefine,
		"module M; syntax S.$= A;":                      api.ErrDefine,
		"module M; syntax S.C$.D = A;":                  api.ErrDefine,
		"module M; syntax S = A as$;":                   api.ErrDefine,
		"module M; syntax S = A as 1 $A;":               api.ErrDefine,
		"module M; syntax S = A as 1 $[a];":             api.ErrDefine,
		"module M; syntax S = A as 1 $(left);":          api.ErrDefine,
		"module M; syntax S = A as 1 $as 1;":            api.ErrDefine,
		"module M; restrict $[a] not [a];":              api.ErrDefine,
		"module M; restrict A $[a];":                    api.ErrDefine,
		"module M; restrict A not $A;":                  api.ErrDefine,
		`module M; restrict A $"b" not [a];`:            api.ErrDefine,
		"module M; restrict A not [a] $[b];":            api.ErrDefine,
		"module M; priority$;":                          api.ErrDefine,
		"module M; priority left$;":                     api.ErrDefine,
		"module M; priority left $left A.B;":            api.ErrDefine,
		"module M; priority A.B $left A.B;":             api.ErrDefine,
		"module M; priority A.B >$;":                    api.ErrDefine,
		"module M; priority A.B >$> A.B;":               api.ErrDefine,
		"module M; priority A$;":                        api.ErrDefine,
		"module M; priority A.B$.C;":                    api.ErrDefine,
		"module M; scope A ${ }":                        api.ErrDefine,
		"module M; scope A.B$;":                         api.ErrDefine,
		"module M; scope A.B { declare $V; }":           api.ErrDefine,
		"module M; scope A.B { declare 1 $2 V; }":       api.ErrDefine,
		"module M; scope A.B { declare own $own 1 V; }": api.ErrDefine,
		"module M; scope A.B { inner$; }":               api.ErrDefine,
		"module M; scope A.B { inner $own 1; }":         api.ErrDefine,
		"module M; scope A.B { inner 1 $V; }":           api.ErrDefine,
		"module M; scope A.B { inner 1 $}":              api.ErrDefine,
		"module M; scope A.B { use 1 V$":                api.ErrDefine,
		"module M; scope A.B { $start S; }":             api.ErrDefine,
		"module M; scope A.B { }$;":                     api.ErrDefine,
		"module M; scope A.B { $":                       api.ErrDefine,
		"module M; scope A.B { $/":                      api.ErrWord,
		`module M; restrict $"a not [a];`:               api.ErrWord,
		`module M; restrict A not $[z-a];`:              api.ErrWord,
		"module M; scope A.B { inner $01; }":            api.ErrWord,
		"module M; scope A.B { inner $1234567890; }":    api.ErrWord,
	} {
		checkMarked(t, text, want)
	}
	checkRefused(t, strings.Repeat(" ", api.MaxText)+"#", 0, api.ErrLong)
	checkRefused(t, "module M;"+strings.Repeat(" ", api.MaxText-8), 0, api.ErrLong)
	checkRefused(t, "#"+strings.Repeat(" ", api.MaxText), 0, api.ErrLong)
	checkParse(t, "module M;"+strings.Repeat(" ", api.MaxText-9), api.Module{Name: "M"})
	checkRefused(t, "module M"+strings.Repeat(" ", api.MaxText-8), api.MaxText, api.ErrDefine)
	checkRefused(t, "module M;"+strings.Repeat(" ", api.MaxText-10)+"#", api.MaxText-1, api.ErrWord)
}

// Texts and numbers at their bounds and past them, wherever one stands.
func TestParseBounds(t *testing.T) {
	for _, hole := range []string{
		"lexical S = $;", "lexical S = A B $?;", `lexical S = { $ "," }*;`, "lexical S = { A $ }+;", "syntax S = $ (left);", `syntax S = { "x" $ }*;`, "syntax S = as $;", "syntax S = as 1 soft $ 2;", "restrict $ not [];",
	} {
		ahead, behind, _ := strings.Cut("module M; "+hole, "$")
		for length, spelt := range map[int]string{1: `"a"`, 2: `"\\\""`, 29: `"` + strings.Repeat("a", 29) + `"`, 30: `"` + strings.Repeat(`\x00`, 30) + `"`} {
			m, _, e := deftext.Parse(ahead + spelt + behind)
			if e != api.OK || !strings.Contains(fmt.Sprintf("%#v", m), `"`) {
				t.Errorf("P4.1: Parse of a text of %d bytes in %s: %v", length, hole, e)
			}
		}
		for _, spelt := range []string{`""`, `"` + strings.Repeat("a", 31) + `"`, `"` + strings.Repeat(`\\`, 31) + `"`, `"` + strings.Repeat("a", 100_000) + `"`} {
			checkRefused(t, ahead+spelt+behind, len(ahead), api.ErrRange)
			checkRefused(t, ahead+spelt, len(ahead), api.ErrRange)
			checkRefused(t, ahead+spelt+"#", len(ahead), api.ErrRange)
		}
	}
	for _, hole := range []string{
		"syntax S = as $;", "syntax S = as 1 soft $ 2;", "scope A.B { declare $ V; }", "scope A.B { declare own $ V; }", "scope A.B { use $ V; }", "scope A.B { use own $ V; }", "scope A.B { inner $; }", "scope A.B { inner 1 $ 2; }", "scope A.B { inner 1; inner $; }",
	} {
		ahead, behind, _ := strings.Cut("module M; "+hole, "$")
		for _, spelt := range []string{"1", "2", "9", "29", "30"} {
			if _, _, e := deftext.Parse(ahead + spelt + behind); e != api.OK {
				t.Errorf("P4.1: Parse of a number %s in %s: %v", spelt, hole, e)
			}
		}
		for _, spelt := range []string{"0", "31", "100", "999999999"} {
			checkRefused(t, ahead+spelt+behind, len(ahead), api.ErrRange)
			checkRefused(t, ahead+spelt+" #", len(ahead), api.ErrRange)
		}
	}
}

// Each list at its bound, and one past it.
func TestParseLists(t *testing.T) {
	for _, x := range []struct {
		ahead, piece, between, behind string
		most                          int
		bad                           []string // pieces with a text or a number beyond its bounds
		lead                          int      // how many bytes of the bad ones stand ahead of what is beyond
		none                          []string // what begins no piece
	}{
		{"", "import N;", " ", "", 64, nil, 0, []string{"module", "#"}},
		{"import N (", "A = B", ", ", ");", 1000, nil, 0, []string{")", "1", "in", ";"}},
		{"", "comment C;", "", "", 1000, nil, 0, []string{"C"}},
		{"", "lexical S =;", "\n", "", 1000, []string{`lexical S = "";`}, 12, []string{";"}},
		{"lexical S =;", "syntax S =;", "", "", 999, []string{`syntax S = as 0;`}, 14, []string{"prefer"}},
		{"syntax S =;lexical S =;", "syntax S =;", "", "", 998, nil, 0, nil},
		{"lexical S = ", "A", " ", ";", 30, []string{`""`, `"` + strings.Repeat("a", 31) + `"`}, 0, []string{"as", "1", ")"}},
		{"syntax S = ", `"a"?`, " ", "(left) as 1;", 30, []string{`""?`}, 0, []string{"left", "=", "}"}},
		{"syntax S = ", `{A ","}*`, "", ";", 30, []string{`{"" ","}*`}, 1, []string{"30"}},
		{"syntax S = ", `[a]+`, "", ";", 30, nil, 0, []string{"[", `"`}},
		{"syntax S = as ", `"a"`, " ", ";", 1000, []string{`""`, `"` + strings.Repeat("a", 31) + `"`, "0", "31"}, 0, []string{"A", "[a]", "left", "as"}},
		{"syntax S = as ", "in", "\n", ";", 1000, []string{"0"}, 0, nil},
		{"syntax S = as ", "30", " ", ";", 1000, []string{`""`}, 0, nil},
		{"", "restrict A not [];", "", "", 1000, []string{`restrict "" not [];`}, 9, []string{"not"}},
		{"", "priority A.B;", "", "", 1000, nil, 0, []string{"left"}},
		{"priority ", "A.B", " > ", ";", 1000, nil, 0, []string{";", ">", "prefer", "1", `"A"`}},
		{"priority ", "left A.B C.D", " > ", ";", 1000, nil, 0, nil},
		{"priority ", "A.B", " ", ";", 1000, nil, 0, []string{"left", ".", ","}},
		{"priority left C.D > non ", "A.B", " ", "> C.D;", 1000, nil, 0, []string{"left"}},
		{"", "scope A.B { }", "", "", 1000, []string{"scope A.B { inner 0; }"}, 18, []string{"inner"}},
		{"scope A.B { ", "declare 1 V;", " ", " use 1 V; inner 1; }", 1000, []string{"declare own 0 V;"}, 12, []string{"own"}},
		{"scope A.B { inner 1; ", "use own 1 V;", " ", " declare 1 V; inner 1; }", 1000, []string{"use 31 V;"}, 4, []string{"V"}},
		{"scope A.B { inner ", "1", " ", "; use 1 V; }", 1000, []string{"0", "31"}, 0, []string{"V"}},
		{"scope A.B { inner ", "1", "; inner ", "; }", 1000, []string{"0"}, 0, []string{";", "}"}},
		{"scope A.B { inner 1 1; use 1 V; declare 1 V; inner ", "1", " ", "; }", 998, []string{"0"}, 0, []string{"own"}},
	} {
		ahead := "module M; " + x.ahead
		full := ahead + strings.Repeat(x.piece+x.between, x.most-1) + x.piece
		if _, _, e := deftext.Parse(full + x.behind); e != api.OK {
			t.Errorf("P4.1: Parse of %d times %q: %v", x.most, x.piece, e)
		}
		place := len(full + x.between)
		for _, behind := range []string{x.behind, "", " #"} {
			checkRefused(t, full+x.between+x.piece+behind, place, api.ErrMany)
		}
		less := full[:len(full)-len(x.piece)]
		for _, bad := range x.bad {
			checkRefused(t, less+bad+x.behind, len(less)+x.lead, api.ErrRange)
			checkRefused(t, full+x.between+bad+x.behind, place, api.ErrMany)
		}
		for _, none := range x.none {
			want := api.ErrDefine
			if strings.Contains("#[\"", none) {
				want = api.ErrWord
			}
			checkRefused(t, full+x.between+none, place, want)
		}
	}
}

// All words behind all beginnings, two by two.
func TestParseAllSmall(t *testing.T) {
	words := append(reservedNames(), "A", `"x"`, `""`, "[a]", "1", "0", "#", "")
	for _, sign := range ";.=,(){}>?*+" {
		words = append(words, string(sign))
	}
	m := newModel()
	for _, ahead := range []string{
		"", "module", "module M", "module M;", "module M; start S;", "module M; layout S; layout", "module M; import", "module M; import N", "module M; import N (", "module M; import N (A = B",
		"module M; lexical", "module M; lexical S", "module M; lexical S =", "module M; lexical S = A", "module M; lexical S = {", "module M; lexical S = { A", `module M; lexical S = { A "x"`, `module M; lexical S = { A "x" }`, "module M; lexical S = (",
		"module M; syntax", "module M; syntax S", "module M; syntax S.C", "module M; syntax S =", "module M; syntax S = A", "module M; syntax S = (", "module M; syntax S = (left", "module M; syntax S = (left)", "module M; syntax S = A (prefer, right", "module M; syntax S = as", "module M; syntax S = A as 1",
		"module M; restrict", "module M; restrict A", `module M; restrict "a" not`, "module M; priority", "module M; priority left", "module M; priority A.B", "module M; priority A.B >",
		"module M; scope", "module M; scope A.B", "module M; scope A.B {", "module M; scope A.B { declare", "module M; scope A.B { use own", "module M; scope A.B { declare 1 V", "module M; scope A.B { inner", "module M; scope A.B { inner 1",
	} {
		for _, a := range words {
			for _, b := range words {
				text := ahead + " " + a + " " + b
				at, err := m.slowFault(text)
				if _, place, e := deftext.Parse(text); place != at || e != err {
					t.Errorf("P4.1: Parse(%q): %d %v, want %d %v", text, place, e, at, err)
				}
			}
		}
	}
}

// Texts of modules of all kinds, and these with some words changed.
func TestParseAsSlow(t *testing.T) {
	die := rand.New(rand.NewSource(4))
	m := newModel()
	names := append(reservedNames(), "A", "B")
	refused := map[api.Errno]int{}
	for range 4_000 {
		module := randomModule(die)
		words := spell(die, module)
		checkParse(t, withGaps(die, words), module)
		for range 4 {
			i := die.Intn(len(words))
			changed := append([]string(nil), words[:i]...)
			switch die.Intn(5) {
			case 0: // one less
			case 1:
				changed = append(changed, words[i], words[i])
			case 2:
				changed = append(changed, words[die.Intn(len(words))])
			case 3:
				changed = append(changed, names[die.Intn(len(names))], words[i])
			case 4:
				changed = append(changed, []string{"#", `""`, "0", "31", ";", ",", "(", "{", "}", `"` + strings.Repeat("z", 31) + `"`}[die.Intn(10)])
			}
			text := withGaps(die, append(changed, words[i+1:]...))
			at, err := m.slowFault(text)
			got, place, e := deftext.Parse(text)
			if place != at || e != err {
				t.Fatalf("P4.1: Parse(%q): %d %v, want %d %v", text, place, e, at, err)
			}
			if refused[e]++; e != api.OK && !reflect.DeepEqual(got, api.Module{}) {
				t.Fatalf("P4.1: Parse(%q): %v beside %v", text, got, e)
			}
			if told, e := deftext.Print(got); err == api.OK {
				again, _, _ := deftext.Parse(told)
				if e != api.OK || !reflect.DeepEqual(again, got) {
					t.Fatalf("P4.5: Print of Parse(%q): %q %v", text, told, e)
				}
			}
		}
	}
	for _, e := range []api.Errno{api.OK, api.ErrDefine, api.ErrRange, api.ErrWord} {
		if refused[e] < 50 {
			t.Errorf("only %d texts with %v", refused[e], e)
		}
	}
}

func TestParseIsNewMemory(t *testing.T) {
	const text = "module M; import N (A = B); comment C; syntax S.A = A B (left) as 1 2; priority A.B C.D > A.B; scope A.B { declare 1 V; use 1 V; inner 1 2; } scope A.C { inner 1; }"
	m, _, _ := deftext.Parse(text)
	want, _, _ := deftext.Parse(text)
	m.Imports[0].Renames[0].To = "X"
	m.Comments = append(m.Comments[:0], "X")
	m.Prods[0].Right[1].Name = "X"
	m.Prods[0].Template[0] = api.DefItem{}
	m.Prios[0].Groups[0].Names[0].Sort = "X"
	m.Scopes[0].Inner[1] = 7
	m.Scopes[0].Inner = append(m.Scopes[0].Inner, 9)
	checkParse(t, text, want)
	if m.Prios[0].Groups[1].Names[0] != cons("A.B") || m.Scopes[1].Inner[0] != 1 {
		t.Errorf("P4.1: Parse shares within an answer: %+v", m)
	}
}
