package modules_test

import (
	"fmt"
	"reflect"
	"slices"
	"strconv"
	"strings"
	"testing"

	"rosetta/api"
	"rosetta/deftext"
	"rosetta/modules"
)

// pairs tells a renaming, spelt A=B C=D.
func pairs(text string) []api.DefRename {
	var out []api.DefRename
	for _, pair := range strings.Fields(text) {
		from, to, _ := strings.Cut(pair, "=")
		out = append(out, api.DefRename{From: from, To: to})
	}
	return out
}

// checkRename asks that a module renamed has this text, behind its name.
func checkRename(t *testing.T, m api.Module, renaming string, want ...string) {
	t.Helper()
	got, e := modules.Rename(m, pairs(renaming)...)
	if e != api.OK || printed(t, got) != lines(append([]string{"module " + m.Name + ";"}, want...)...) {
		t.Errorf("P5.2: Rename(%s, %s): %s %v, want\n%s", m.Name, renaming, brief(got), e, lines(want...))
	}
}

func checkRenameWrong(t *testing.T, m api.Module, l ...api.DefRename) {
	t.Helper()
	if got, e := modules.Rename(m, l...); e != api.ErrArg || !reflect.DeepEqual(got, api.Module{}) {
		t.Errorf("P5.2: Rename(%s, %s): %s %v, want ErrArg", brief(m), brief(l), brief(got), e)
	}
}

func TestRename(t *testing.T) {
	m := read("A; import Z (S = T, U = V); import S; import Z; " + whole)
	called := func(s, u string) []string {
		return append([]string{"import Z (S = T, U = V);", "import S;", "import Z;", "start " + s + ";", "layout " + s + ";"}, wholeLines(s, u)...)
	}
	checkRename(t, m, "S=A U=B", "import Z (S = T, U = V);", "import S;", "import Z;", "start A;", "layout A;", "comment A;", "comment B;",
		`lexical A = A "S" [S] { A "S" }* { "S" "S" }+ A? (reject);`, "syntax A = A (bracket);", `syntax A.S = "S" A* A+ { A "S" }+ B (left) as 1 "S" 2;`,
		`restrict "S" not [S];`, "restrict A not [S];", "priority B.U;", "priority left A.S B.S > A.U;", "scope A.S { declare 1 S; use own 2 S; inner 3; }", "scope B.S { use 1 U; }")
	checkRename(t, m, "", called("S", "U")...)
	checkRename(t, m, "S=S", called("S", "U")...)
	checkRename(t, m, "Z=Q V=W A=B T=R", called("S", "U")...) // sorts that don't stand in it, some of them in its imports
	checkRename(t, m, "U=X S=B", called("B", "X")...)
	checkRename(t, read("A; lexical S = T; lexical T = S; start S; layout T;"), "S=T T=S", "start T;", "layout S;", "lexical S = T;", "lexical T = S;")
	checkRename(t, read("A; lexical S = T; lexical T = S; start S; layout T;"), "S=T T=U U=S", "start T;", "layout U;", "lexical T = U;", "lexical U = T;")
	checkRename(t, read(`A; comment T; comment S; comment T; lexical T = [t]; lexical S = [t]; restrict T not [t]; restrict "q" not [b]; restrict S not [s]; restrict "q" not [a]; priority T.C; priority S.C; scope T.C { } scope S.C { }`), "T=S",
		"comment S;", "lexical S = [t];", `restrict "q" not [ab];`, "restrict S not [st];", "priority S.C;", "scope S.C { }")
	checkRename(t, read("A; import A; import A (S = T, S = U);"), "S=T", "import A;", "import A (S = T, S = U);")
	long := strings.Repeat("n", api.MaxName)
	checkRename(t, read("A; start S;"), "S="+long, "start "+long+";")
	var many []api.DefRename
	for i := range 3 * api.MaxProds { // more than an import may have
		many = append(many, api.DefRename{From: "S" + strconv.Itoa(i), To: "T" + strconv.Itoa(i)})
	}
	if got, e := modules.Rename(read("A; start S2999;"), many...); e != api.OK || got.Start != "T2999" {
		t.Errorf("P5.2: Rename by many: %s %v", brief(got), e)
	}
}

func TestRenameWrong(t *testing.T) {
	m := read("A; start S;")
	for _, name := range noNames() {
		checkRenameWrong(t, m, api.DefRename{From: name, To: "S"})
		checkRenameWrong(t, m, api.DefRename{From: "S", To: name})
		checkRenameWrong(t, m, api.DefRename{From: "Q", To: name}) // though Q doesn't stand in it
		checkRenameWrong(t, m, api.DefRename{From: name, To: name})
		checkRenameWrong(t, m, api.DefRename{From: "S", To: "T"}, api.DefRename{From: "T", To: name})
	}
	for _, l := range []string{"S=T S=U", "S=T S=T", "S=S S=S", "Q=R S=T Q=R", "A=B B=C C=D B=E"} {
		checkRenameWrong(t, m, pairs(l)...)
	}
	for _, bad := range badModules() {
		if deftext.Check(bad) == api.OK { // what its imports say counts in tables alone
			continue
		}
		checkRenameWrong(t, bad)
		checkRenameWrong(t, bad, pairs("S=T")...)
	}
}

// checkUnion asks that the union of two has this text.
func checkUnion(t *testing.T, a, b api.Module, want ...string) {
	t.Helper()
	if got := modules.Union(a, b); printed(t, got) != lines(want...) {
		t.Errorf("P5.2: Union(%s, %s):\n%swant\n%s", brief(a), brief(b), printed(t, got), lines(want...))
	}
}

func TestUnionOfTwo(t *testing.T) {
	a := read(`A; import N (S = T); import M; start S; comment S; comment C1; comment C; syntax S.B = S; syntax S.A = S; restrict S not [a]; restrict S not [b]; restrict "x" not [1]; priority S.B; priority S.A; scope S.B { } scope S.A { }`)
	b := read(`B; import O; layout S; start T; comment C; comment B; lexical L = [a]; syntax S.A = S; syntax S.AA = S; restrict S not [c]; restrict L not [c]; restrict "x" not [2]; priority S.A; priority S.A > S.B; scope S.A { inner 1; } scope S.A { }`)
	parts := []string{"comment B;", "comment C;", "comment C1;", "comment S;", "lexical L = [a];", "syntax S.A = S;", "syntax S.AA = S;", "syntax S.B = S;",
		`restrict "x" not [12];`, "restrict L not [c];", "restrict S not [a-c];", "priority S.A > S.B;", "priority S.A;", "priority S.B;", "scope S.A { inner 1; }", "scope S.A { }", "scope S.B { }"}
	checkUnion(t, a, b, append([]string{"module A;", "import N (S = T);", "import M;", "start S;", "layout S;"}, parts...)...)
	checkUnion(t, b, a, append([]string{"module B;", "import O;", "start T;", "layout S;"}, parts...)...)
	checkUnion(t, a, a, "module A;", "import N (S = T);", "import M;", "start S;", "comment C;", "comment C1;", "comment S;", "syntax S.A = S;", "syntax S.B = S;", `restrict "x" not [1];`, "restrict S not [ab];", "priority S.A;", "priority S.B;", "scope S.A { }", "scope S.B { }")
	checkUnion(t, read("A;"), read("A; import A; start S; layout L;"), "module A;", "layout L;")
	checkUnion(t, read("A; start T; layout K;"), read("B; start S; layout L;"), "module A;", "start T;", "layout K;")
	checkUnion(t, read("A; start T; layout K;"), read("B;"), "module A;", "start T;", "layout K;")
	checkUnion(t, read("A;"), read("B;"), "module A;")
	for _, bad := range badModules() {
		if deftext.Check(bad) == api.OK {
			continue
		}
		for _, u := range []api.Module{modules.Union(a, bad), modules.Union(bad, a), modules.Union(bad, bad)} {
			if !reflect.DeepEqual(u, api.Module{}) {
				t.Errorf("P5.2: Union with %s: %s", brief(bad), brief(u))
			}
		}
	}
	for _, fill := range fillers() { // a union of two that may be has all of both, though it is more than a module may have
		u := modules.Union(filled("A;", fill, 0, api.MaxProds), filled("B;", fill, 1, api.MaxProds))
		if count(u) != api.MaxProds+1 {
			t.Errorf("P5.2: Union of many: %d", count(u))
		}
	}
}

func checkSorts(t *testing.T, m api.Module, want string) {
	t.Helper()
	if got := modules.Sorts(m); strings.Join(got, " ") != want || want == "" && len(got) != 0 {
		t.Errorf("P5.2: Sorts(%s): %q, want %s", brief(m), got, want)
	}
}

func TestSorts(t *testing.T) {
	for text, want := range map[string]string{
		"": "", "start S;": "S", "layout S;": "S", "comment T; comment S; comment T;": "S T", "start b; layout B; comment _;": "B _ b", "comment A10; comment A9; comment A; comment a;": "A A10 A9 a",
		`lexical S = T "U" [V] W* X+ { Y "Z" }+ { "z" "A" }* Q?;`: "Q S T W X Y", `syntax S.C = T "x" (left) as 1 "y";`: "S T", "syntax S =;": "S", "lexical S = (reject);": "S",
		"restrict S not [a];": "S", `restrict "S" not [a];`: "", "priority A.B;": "A", "priority left B.X A.Y > non C.Z;": "A B C",
		"scope S.C { declare 1 V; use own 2 W; inner 1; }": "S", "import N;": "",
	} {
		checkSorts(t, read("M; "+text), want)
	}
	checkSorts(t, read("A; "+whole), "S U")
	checkSorts(t, read("M; import A (S = T); import B; start B;"), "B") // the sorts of imports stand in those
	// Of modules that may not be, too.
	checkSorts(t, api.Module{}, "")
	checkSorts(t, api.Module{Name: "start", Start: "S", Prods: []api.DefProd{{Sort: "T"}, {}}, Comments: []string{"U", ""}}, "S T U")
	checkSorts(t, api.Module{Prods: []api.DefProd{{Lexical: true, Sort: "A", Cons: "C", Right: []api.DefSym{{Name: "B"}, {}, {Is: api.DefLit}, {Is: 7}}}}, Restricts: []api.DefRestrict{{}}, Prios: []api.DefPrio{{}, {Groups: []api.DefGroup{{}, {Names: []api.DefName{{}, {Sort: "D"}}}}}}, Scopes: []api.DefScope{{}, {Of: api.DefName{Sort: "C"}}}}, "A B C D")
	m := api.Module{Name: "M", Comments: slices.Repeat([]string{"C"}, 1<<20)}
	checkSorts(t, m, "C")
}

// Nothing that is handed in is changed, its spare room neither; no list of an answer is one that was handed in, or another one of it.
func TestNewMemory(t *testing.T) {
	shared := []api.DefSym{{Name: "S"}, {Name: "T"}}
	items := []api.DefItem{{Kid: 1}, {Text: "x"}}
	moduleOf := func(name string) api.Module {
		m := read(name + "; import C (S = T, U = V); import D; comment B; comment A; restrict S not [a]; priority S.B S.C > T.D; priority S.A; scope S.B { declare 1 V; use 2 W; inner 1 2; } scope S.A { declare 1 V; use 2 W; inner 1 2; } layout L;")
		m.Prods = []api.DefProd{{Sort: "S", Cons: "B", Right: shared, Template: items}, {Sort: "S", Cons: "A", Right: shared, Template: items}}
		return m
	}
	table := []api.Module{moduleOf("A"), moduleOf("B"), read("C; start S; syntax S.Z = S T as 1;"), read("D; import C;")}
	table[1].Imports = append(table[1].Imports, api.DefImport{Name: "A"}, api.DefImport{Name: "A", Renames: pairs("S=T T=S")})
	table = append(table, api.Module{Name: "Spare"})[:len(table)]
	for i := range table {
		table[i].Prods = append(table[i].Prods, api.DefProd{Sort: "Spare"})[:len(table[i].Prods)]
		table[i].Comments = append(table[i].Comments, "Spare")[:len(table[i].Comments)]
		table[i].Restricts = append(table[i].Restricts, api.DefRestrict{Name: "Spare"})[:len(table[i].Restricts)]
	}
	renaming := append(pairs("S=T T=S"), api.DefRename{From: "Spare"})[:2]
	before := fmt.Sprint(spread(table), spread(renaming))
	m, of, e := modules.Compose("B", table...)
	again, _, _ := modules.Compose("B", table...)
	names, _ := modules.Reached("B", table...)
	r, _ := modules.Rename(table[1], renaming...)
	same, _ := modules.Rename(table[1])
	answers := []any{m, again, names, r, same, modules.Union(table[0], table[1]), modules.Union(table[0], table[0]), modules.Sorts(table[0])}
	if e != api.OK || of != "" || len(m.Prods) != 8 {
		t.Fatalf("P5.1: Compose: %s %q %v", brief(m), of, e)
	}
	if fmt.Sprint(spread(table), spread(renaming)) != before {
		t.Errorf("P5.1: what was handed in has changed: %s", brief(table))
	}
	seen := map[uintptr]string{}
	for _, given := range []any{table, shared, items, renaming} {
		lists(reflect.ValueOf(given), func(at uintptr) { seen[at] = "handed in" })
	}
	for i, answer := range answers {
		lists(reflect.ValueOf(answer), func(at uintptr) {
			if was := seen[at]; was != "" {
				t.Errorf("P5.1: answer %d shares what is %s", i, was)
			}
			seen[at] = "in answer " + strconv.Itoa(i)
		})
	}
}

// lists tells the memory of all lists that stand in a value.
func lists(v reflect.Value, tell func(at uintptr)) {
	switch v.Kind() {
	case reflect.Slice:
		if v.Cap() > 0 {
			tell(v.Pointer())
		}
		fallthrough
	case reflect.Array:
		for i := range v.Len() {
			lists(v.Index(i), tell)
		}
	case reflect.Struct:
		for i := range v.NumField() {
			lists(v.Field(i), tell)
		}
	}
}

// spread tells a list of structs with the spare room behind it and behind the lists in it.
func spread[T any](l []T) []any {
	var out []any
	for _, x := range l[:cap(l)] {
		out = append(out, x)
		v := reflect.ValueOf(x)
		for i := range v.NumField() {
			if f := v.Field(i); f.Kind() == reflect.Slice {
				out = append(out, f.Slice3(0, f.Cap(), f.Cap()).Interface())
			}
		}
	}
	return out
}

// There and back by names that don't stand in it: the module, put in order.
func TestThereAndBack(t *testing.T) {
	m := read("A; import Z (S = T); " + whole)
	want, e := modules.Rename(m)
	if e != api.OK {
		t.Fatal(e)
	}
	for _, way := range [][2]string{{"S=T", "T=S"}, {"S=T U=V", "V=U T=S"}, {"U=Z S=A", "A=S Z=U"}, {"S=U U=S", "U=S S=U"}} {
		there, e1 := modules.Rename(m, pairs(way[0])...)
		back, e2 := modules.Rename(there, pairs(way[1])...)
		if e1 != api.OK || e2 != api.OK || !deftext.Same(back, want) || deftext.Same(there, want) && way[0] != "S=U U=S" {
			t.Errorf("P5.3: there and back by %v: %s %v %v", way, brief(back), e1, e2)
		}
	}
	if u := modules.Union(m, m); !deftext.Same(u, want) {
		t.Errorf("P5.3: Union of itself: %s", brief(u))
	}
	if u := modules.Union(want, m); !deftext.Same(u, want) {
		t.Errorf("P5.3: Union of itself in order: %s", brief(u))
	}
}
