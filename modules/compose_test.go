package modules_test

import (
	"slices"
	"strconv"
	"testing"

	"rosetta/api"
	"rosetta/modules"
)

// Parts stand in order, each once; of imports Start does not count.
func TestUnion(t *testing.T) {
	table := tableOf(`M; import N; import O; start S; comment D; comment C10; comment C;
			syntax S.B = S "x"; lexical L = [b]; syntax S.A = L (prefer); lexical L = [a]; syntax S.B = S "x"; lexical L = [a] (reject);
			restrict S not [a]; restrict "x" not [b]; priority S.B > S.A; priority S.A; scope S.B { inner 1; } scope S.A { use 1 V; }`,
		`N; start N; layout Q; comment C; comment C2; comment B; syntax S.A = L (avoid); syntax S.A = L (prefer); syntax S.B = S "x" as 1 "x"; lexical L = [\x61]; priority S.A; scope S.A { use 1 V; } scope S.A { }`,
		"O; start O; layout Q;")
	checkCompose(t, "M", table, "start S;", "layout Q;",
		"comment B;", "comment C;", "comment C10;", "comment C2;", "comment D;",
		"lexical L = [a] (reject);", "lexical L = [a];", "lexical L = [b];",
		"syntax S.A = L (avoid);", "syntax S.A = L (prefer);", `syntax S.B = S "x" as 1 "x";`, `syntax S.B = S "x";`,
		`restrict "x" not [b];`, "restrict S not [a];",
		"priority S.A;", "priority S.B > S.A;",
		"scope S.A { use 1 V; }", "scope S.A { }", "scope S.B { inner 1; }")
	checkCompose(t, "N", table[1:], "start N;", "layout Q;", "comment B;", "comment C;", "comment C2;",
		"lexical L = [a];", "syntax S.A = L (avoid);", "syntax S.A = L (prefer);", `syntax S.B = S "x" as 1 "x";`, "priority S.A;", "scope S.A { use 1 V; }", "scope S.A { }")
	checkCompose(t, "O", table, "start O;", "layout Q;")
	checkCompose(t, "E", tableOf("E;"))
	checkCompose(t, "E", tableOf("E; import F;", "F; import G; start S;", "G;"))
}

// whole is the text of a module in which the sort S stands wherever a sort may; and as much else is called S, or what a sort is called.
const whole = `start S; layout S; comment S; comment U;
	lexical S = S "S" [S] { S "S" }* { "S" "S" }+ S? (reject);
	syntax S.S = "S" S* S+ { S "S" }+ U (left) as 1 "S" 2;
	syntax S = S (bracket);
	restrict S not [S]; restrict "S" not [S];
	priority left S.S U.S > S.U; priority U.U;
	scope S.S { declare 1 S; use own 2 S; inner 3; } scope U.S { use 1 U; }`

// wholeLines tells its lines in order, the sorts S and U called so, which stand in that order.
func wholeLines(s, u string) []string {
	return []string{"comment " + s + ";", "comment " + u + ";",
		"lexical " + s + " = " + s + ` "S" [S] { ` + s + ` "S" }* { "S" "S" }+ ` + s + "? (reject);",
		"syntax " + s + " = " + s + " (bracket);",
		"syntax " + s + `.S = "S" ` + s + "* " + s + "+ { " + s + ` "S" }+ ` + u + ` (left) as 1 "S" 2;`,
		`restrict "S" not [S];`, "restrict " + s + " not [S];",
		"priority " + u + ".U;", "priority left " + s + ".S " + u + ".S > " + s + ".U;",
		"scope " + s + ".S { declare 1 S; use own 2 S; inner 3; }", "scope " + u + ".S { use 1 U; }"}
}

// Sorts are renamed wherever they stand, all at a time, and nothing else is.
func TestRenamings(t *testing.T) {
	wholeCalled := func(s, u string) []string { return append([]string{"layout " + s + ";"}, wholeLines(s, u)...) }
	sorted := func(l []string) []string { // lines of each kind in order, which stand so
		order := []string{"layo", "comm", "lexi", "synt", "rest", "prio", "scop"}
		l = slices.Clone(l)
		slices.SortFunc(l, func(a, b string) int {
			if k := slices.Index(order, a[:4]) - slices.Index(order, b[:4]); k != 0 {
				return k
			}
			if a < b {
				return -1
			}
			return 1
		})
		return l
	}
	table := tableOf("A; "+whole,
		"B; import A (S = T);", "C; import A (S = T, U = V);", "Swap; import A (S = U, U = S);", "Back; import Swap (U = S, S = U);", "None; import A (Q = S, R = U);", "Same; import A (S = S, U = U);",
		"Chain; import A (S = U, U = W);", "Far; import Mid (T = R, S = Bad, U = Q);", "Mid; import B (V = Bad);", "Over; import C (T = V, V = T);", "Two; import Chain (U = S, W = U, S = W);")
	checkCompose(t, "A", table, append([]string{"start S;"}, sorted(wholeCalled("S", "U"))...)...)
	for root, called := range map[string][2]string{
		"B": {"T", "U"}, "C": {"T", "V"}, "Swap": {"U", "S"}, "Back": {"S", "U"}, "None": {"S", "U"}, "Same": {"S", "U"}, "Chain": {"U", "W"}, "Mid": {"T", "U"}, "Far": {"R", "Q"}, "Over": {"V", "T"}, "Two": {"S", "U"},
	} {
		checkCompose(t, root, table, sorted(wholeCalled(called[0], called[1]))...)
	}
	// What the importing module says itself isn't renamed, nor what another import says.
	checkCompose(t, "R", tableOf("R; import A (S = T); import B; start S; lexical S = [r];", "A; lexical S = [a];", "B; lexical S = [b];"),
		"start S;", "lexical S = [b];", "lexical S = [r];", "lexical T = [a];")
}

func TestImportsTwice(t *testing.T) {
	a := read(`A; syntax S.C = S U; restrict S not [a]; priority S.C; scope S.C { inner 1; } comment S;`)
	once := []string{"comment S;", "syntax S.C = S U;", "restrict S not [a];", "priority S.C;", "scope S.C { inner 1; }"}
	both := []string{"comment S;", "comment T;", "syntax S.C = S U;", "syntax T.C = T U;", "restrict S not [a];", "restrict T not [a];", "priority S.C;", "priority T.C;", "scope S.C { inner 1; }", "scope T.C { inner 1; }"}
	for _, text := range []string{"R; import A;", "R; import A; import A;", "R; import A; import A (S = S); import A (Q = T);", "R; import A; import B;", "R; import C (T = S);", "R; import C (T = S); import A;"} {
		checkCompose(t, "R", append(tableOf(text, "B; import A;", "C; import A (S = T);"), a), once...)
	}
	for _, text := range []string{"R; import A; import A (S = T);", "R; import A (S = T); import A;", "R; import A (S = T); import A; import A (S = T); import A;", "R; import B; import A (S = T);", "R; import B; import C;"} {
		checkCompose(t, "R", append(tableOf(text, "B; import A;", "C; import A (S = T);"), a), both...)
	}
}

// Parts that are one only once they are renamed.
func TestOneOnceRenamed(t *testing.T) {
	table := tableOf(
		`A; layout Q; comment A; comment B; syntax A.C = A B A; syntax B.C = B A B; syntax A.C = A A; lexical L = A; lexical L = B; restrict A not [a]; restrict B not [b]; restrict C not [c]; priority A.C > B.C; priority B.C > A.C; scope A.C { use 1 V; } scope B.C { use 1 V; }`,
		"R; import A (A = X, B = X);", "N; import A (B = A);", "T; import A; import U (C = A, D = B);",
		`U; syntax C.C = C D C; lexical L = D; restrict D not [x]; restrict C not [a-c]; scope D.C { use 1 V; }`)
	of := func(x string) []string {
		return []string{"comment " + x + ";", "lexical L = " + x + ";", "syntax " + x + ".C = " + x + " " + x + " " + x + ";", "syntax " + x + ".C = " + x + " " + x + ";"}
	}
	checkCompose(t, "R", table, append(append([]string{"layout Q;"}, of("X")...), "restrict C not [c];", "restrict X not [ab];", "priority X.C > X.C;", "scope X.C { use 1 V; }")...)
	checkCompose(t, "N", table, append(append([]string{"layout Q;"}, of("A")...), "restrict A not [ab];", "restrict C not [c];", "priority A.C > A.C;", "scope A.C { use 1 V; }")...)
	checkCompose(t, "T", table, "layout Q;", "comment A;", "comment B;", "lexical L = A;", "lexical L = B;", "syntax A.C = A A;", "syntax A.C = A B A;", "syntax B.C = B A B;",
		"restrict A not [a-c];", "restrict B not [bx];", "restrict C not [c];", "priority A.C > B.C;", "priority B.C > A.C;", "scope A.C { use 1 V; }", "scope B.C { use 1 V; }")
}

// Restrictions of one sort, or of one literal, are one; one of the sort and one of a literal that is spelt so are two.
func TestRestricts(t *testing.T) {
	table := tableOf(`R; import A; import B (T = S); restrict S not [a]; restrict S not [b]; restrict "S" not [1]; restrict "T" not [8]; restrict E not [];`,
		`A; restrict S not [x-z]; restrict "S" not [2]; restrict E not [];`, `B; restrict S not [b-d]; restrict T not [^\x00-\xf0]; restrict "S" not [1-3]; restrict "T" not [9]; restrict F not [^];`)
	checkCompose(t, "R", table, `restrict "S" not [1-3];`, `restrict "T" not [89];`, "restrict E not [];", "restrict F not [^];", `restrict S not [a-dx-z\xf1-\xff];`)
	checkCompose(t, "B", table, `restrict "S" not [1-3];`, `restrict "T" not [9];`, "restrict F not [^];", "restrict S not [b-d];", `restrict T not [\xf1-\xff];`)
}

func TestLayouts(t *testing.T) {
	x, y, none := read("X; layout L;"), read("Y; layout K;"), read("None; start S;")
	compose := func(text string, want ...string) {
		t.Helper()
		checkCompose(t, "R", append(tableOf("R; "+text, "XX; import X; import None;", "Own; import X; layout Own;", "Z; import X (L = K);"), x, y, none), want...)
	}
	compose("")
	compose("import None;")
	compose("layout Q;", "layout Q;")
	compose("import X;", "layout L;")
	compose("import None; import X; import None;", "layout L;")
	compose("import X; import X; import XX;", "layout L;")
	compose("import XX;", "layout L;")
	compose("import X (L = M);", "layout M;")
	compose("import XX (L = M, M = L);", "layout M;")
	compose("import X (K = M);", "layout L;")
	compose("import X; import Y (K = L);", "layout L;")
	compose("import X (L = K); import Y;", "layout K;")
	compose("import X (L = K, K = L); import Y; import Z;", "layout K;")
	compose("import X; import Y; layout L;", "layout L;") // it says its own
	compose("import X; import Y; layout Q;", "layout Q;")
	compose("import X (L = Q); layout L;", "layout L;")
	compose("import Own;", "layout Own;")
	compose("import Own (Own = L); import X;", "layout L;")
	clashes := func(of, text string, table ...string) {
		t.Helper()
		checkRefused(t, "R", append(tableOf(append(table, "R; "+text, "XX; import X; import None;", "Own; import X; layout Own;")...), x, y, none), of, api.ErrClash)
	}
	clashes("R", "import X; import Y;")
	clashes("R", "import Y; import None; import X;")
	clashes("R", "import XX; import Y;")
	clashes("R", "import X; import X (L = M);")
	clashes("R", "import X (L = K); import Y (K = L);")
	clashes("R", "import X; import Own;")
	clashes("R", "import X; import Y; import X (L = Q);")
	// What clashes is told also below a module that says its own, and has none for those that import it.
	clashes("C", "import C; layout L;", "C; import X; import Y;")
	clashes("C", "import C;", "C; import X; import Y;")
	clashes("C", "import C; import X;", "C; import X; import Y;")
	clashes("C", "import C (L = K); import Y;", "C; import X; import Y;")
	clashes("Z", "import Z; import X;", "Z; import X; import Y;")
	clashes("R", "import Z; import X; import Y;", "Z; import X; import Y;")
	clashes("D", "import Z; import D; layout L;", "Z; import X; import Y;", "D; import Y; import X;")
	clashes("R", "import Z; import Own; import X;", "Z; import X; import Y;")
	clashes("S", "import T;", "T; import S; import X;", "S; import U;  import X; import Y;", "U; import None;")
	clashes("S", "import T; import S (L = M); import X;", "T; import S; import Y (K = L);", "S; import X; import Y;")
	checkCompose(t, "X", append(clashing("K"), x), "layout L;") // what clashes isn't reached
	checkCompose(t, "R", append(clashing("K"), tableOf("R; import ClashX; import ClashX;")...), "layout X;")
}

// P5.3: what Compose answers hangs neither on the order of the table, nor of imports, nor on one being told twice, nor on what isn't reached.
func TestComposeOrder(t *testing.T) {
	table := tableOf("R; import A (S = T); import B (S = U); import A; start S; syntax S.R = S;", "A; import C; layout L; syntax S.A = S L;", "B; import C; lexical S = [b]; restrict S not [a];", "C; import D (Q = S); comment Q;", "D; layout L; lexical Q = [d]; restrict Q not [q];")
	want := []string{"start S;", "layout L;", "comment Q;", "lexical S = [d];", "lexical T = [d];", "lexical U = [b];", "lexical U = [d];", "syntax S.A = S L;", "syntax S.R = S;", "syntax T.A = T L;", "restrict S not [q];", "restrict T not [q];", "restrict U not [aq];"}
	checkCompose(t, "R", table, want...)
	apart := tableOf("E; import E;", "F; import Away;", "K; import A; import D (L = K);", "P; import R; start P;", "Q; layout K; syntax S.Q = Q;")
	for i := range 120 { // all orders
		other := slices.Clone(table)
		for k, n := len(other), i; k > 1; n, k = n/k, k-1 {
			other[k-1], other[n%k] = other[n%k], other[k-1]
		}
		for k := range other {
			imports := slices.Clone(other[k].Imports)
			if i%2 == 1 {
				slices.Reverse(imports)
			}
			if i%3 == 1 {
				imports = append(imports, imports...)
			}
			other[k].Imports = imports
		}
		checkCompose(t, "R", slices.Insert(other, i%6, apart[:i%(len(apart)+1)]...), want...)
		checkReached(t, "R", slices.Insert(other, i%6, apart[:i%(len(apart)+1)]...), "A B C D R")
	}
}

// A number of sorts and imports that is as great as one module may have.
func TestManyRenamings(t *testing.T) {
	a, r := read("A; import B;"), read("R;")
	var renames []api.DefRename
	for i := range api.MaxProds {
		a.Prods = append(a.Prods, api.DefProd{Sort: "S" + strconv.Itoa(i), Right: []api.DefSym{{Name: "S" + strconv.Itoa((i+1)%api.MaxProds)}}})
		renames = append(renames, api.DefRename{From: "S" + strconv.Itoa(i), To: "S" + strconv.Itoa((i+1)%api.MaxProds)})
	}
	r.Imports = slices.Repeat([]api.DefImport{{Name: "A", Renames: renames}}, api.MaxModules)
	m, of, e := modules.Compose("R", r, a, read("B;"))
	whole, _, _ := modules.Compose("A", a, read("B;"))
	whole.Name = "R"
	if of != "" || e != api.OK || printed(t, m) != printed(t, whole) || len(m.Prods) != api.MaxProds {
		t.Errorf("P5.1: Compose: %s %q %v", brief(m), of, e)
	}
}
