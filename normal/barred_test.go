package normal_test

import (
	"fmt"
	"slices"
	"strings"
	"testing"

	"rosetta/api"
	"rosetta/sets"
)

// checkForbids asks for what a definition forbids, each told as parent, place, child: productions by their constructors.
func checkForbids(t *testing.T, text string, want ...string) {
	t.Helper()
	g := made(t, read(text))
	var got []string
	for i, f := range g.Forbid {
		p, q := g.Prods[f.Parent], g.Prods[f.Child]
		got = append(got, fmt.Sprint(g.Sorts[p.Left], ".", p.Cons, " ", f.At, " ", g.Sorts[q.Left], ".", q.Cons))
		if i > 0 && slices.Compare([]int{g.Forbid[i-1].Parent, g.Forbid[i-1].At, g.Forbid[i-1].Child}, []int{f.Parent, f.At, f.Child}) >= 0 {
			t.Errorf("P7.1: Make(%s): not in order: %v", text, g.Forbid)
		}
	}
	if !slices.Equal(got, want) {
		t.Errorf("P7.1: Make(%s) forbids\n%s\nwant\n%s", text, strings.Join(got, "\n"), strings.Join(want, "\n"))
	}
}

// Productions with a sort E as first, middle, last symbol; and others.
const many = `start E; syntax E.A = E "a" E E; syntax E.B = E E; syntax E.C = "c" E "d"; syntax E.D = F; syntax E.O =; syntax E.U = E; syntax E.L = E* E+ E?; syntax E = "(" E ")" (left); syntax F.A = E F; syntax F.B = F; syntax F.O =; `

func TestForbidsOfGroups(t *testing.T) {
	checkForbids(t, many)
	checkForbids(t, many+"priority E.A;")
	checkForbids(t, many+"priority E.A E.B E.C F.A;")
	checkForbids(t, many+"priority E.A > E.B;", "E.A 1 E.B", "E.A 3 E.B", "E.A 4 E.B")
	checkForbids(t, many+"priority E.B > E.A;", "E.B 1 E.A", "E.B 2 E.A")
	checkForbids(t, many+"priority E.C > E.O;", "E.C 2 E.O")
	checkForbids(t, many+"priority E.O > E.C;")
	checkForbids(t, many+"priority E.L > E.B;") // lists and options are other sorts
	checkForbids(t, many+"priority E.U > E.U;", "E.U 1 E.U")
	checkForbids(t, many+"priority E.B > E.C > E.U;", "E.B 1 E.C", "E.B 1 E.U", "E.B 2 E.C", "E.B 2 E.U", "E.C 2 E.U")
	checkForbids(t, many+"priority E.B > E.C; priority E.C > E.U;", "E.B 1 E.C", "E.B 2 E.C", "E.C 2 E.U") // two priorities are not one
	checkForbids(t, many+"priority E.B E.U > E.C E.D;", "E.B 1 E.C", "E.B 1 E.D", "E.B 2 E.C", "E.B 2 E.D", "E.U 1 E.C", "E.U 1 E.D")
	checkForbids(t, many+"priority E.D > F.A;", "E.D 1 F.A") // of unlike sorts
	checkForbids(t, many+"priority F.A > F.B E.C;", "F.A 1 E.C", "F.A 2 F.B")
	checkForbids(t, many+"priority E.C > F.A;")
	checkForbids(t, many+"priority F.B > E.A;")
	checkForbids(t, many+"priority E.U > E.C E.C; priority E.U E.U > E.C; priority E.U > E.C > E.C;", "E.C 2 E.C", "E.U 1 E.C")
	checkForbids(t, many+"priority E.U > E.C > E.U;", "E.C 2 E.U", "E.U 1 E.C", "E.U 1 E.U")
	checkForbids(t, many+"priority E.O > E.C > E.O > E.U;", "E.C 2 E.O", "E.C 2 E.U")
	// Numbers go by sorts and texts, whatever the order of groups.
	checkForbids(t, many+"priority E.U > E.C; priority E.B > E.O E.D E.A;", "E.B 1 E.A", "E.B 1 E.D", "E.B 1 E.O", "E.B 2 E.A", "E.B 2 E.D", "E.B 2 E.O", "E.U 1 E.C")
}

func TestForbidsOfOrders(t *testing.T) {
	// Of a group: each two of it, one twice, too.
	checkForbids(t, many+"priority left E.B E.A;", "E.A 4 E.A", "E.A 4 E.B", "E.B 2 E.A", "E.B 2 E.B")
	checkForbids(t, many+"priority right E.A E.B;", "E.A 1 E.A", "E.A 1 E.B", "E.B 1 E.A", "E.B 1 E.B")
	checkForbids(t, many+"priority non E.A E.B;", "E.A 1 E.A", "E.A 1 E.B", "E.A 4 E.A", "E.A 4 E.B", "E.B 1 E.A", "E.B 1 E.B", "E.B 2 E.A", "E.B 2 E.B")
	checkForbids(t, many+"priority non E.C E.O E.L;") // no E stands at an end
	checkForbids(t, many+"priority left E.U E.O;", "E.U 1 E.O", "E.U 1 E.U")
	checkForbids(t, many+"priority non E.U;", "E.U 1 E.U") // the only symbol is first and last
	checkForbids(t, many+"priority left F.A E.B;", "E.B 2 E.B", "F.A 2 F.A")
	checkForbids(t, many+"priority right F.A E.B;", "E.B 1 E.B", "F.A 1 E.B")
	checkForbids(t, many+"priority left E.B E.B;", "E.B 2 E.B")
	checkForbids(t, many+"priority E.U > left E.B E.C > right E.A;", "E.A 1 E.A", "E.B 1 E.A", "E.B 2 E.A", "E.B 2 E.B", "E.B 2 E.C", "E.C 2 E.A", "E.U 1 E.A", "E.U 1 E.B", "E.U 1 E.C")
	// Of a production: itself. One without a constructor forbids nothing.
	own := func(assoc string) string {
		return "start E; syntax E.A = E E E (" + assoc + "); syntax E.B = E; syntax E.C = F E F (" + assoc + "); syntax E = F (" + assoc + "); syntax F = F (" + assoc + "); syntax F.F =; "
	}
	checkForbids(t, own("left"), "E.A 3 E.A")
	checkForbids(t, own("right"), "E.A 1 E.A")
	checkForbids(t, own("non"), "E.A 1 E.A", "E.A 3 E.A")
	checkForbids(t, own("non")+"priority left E.A; priority E.A > E.A;", "E.A 1 E.A", "E.A 2 E.A", "E.A 3 E.A")
	checkForbids(t, own("left")+"priority right E.A E.B;", "E.A 1 E.A", "E.A 1 E.B", "E.A 3 E.A", "E.B 1 E.A", "E.B 1 E.B")
	checkForbids(t, "start E; syntax E.A = \"a\" E (right); syntax E.B = E \"b\" (left); syntax E.C = \"c\" E (left); syntax E.D = E \"d\" (non); syntax E.O =;", "E.C 2 E.C", "E.D 1 E.D")
	checkForbids(t, "start E; syntax E.A = E+ E (left, prefer); syntax E.B = E E* (left); syntax E.O =;", "E.A 2 E.A")
}

// Gaps count as symbols, and nothing is forbidden in them.
func TestForbidsWithGaps(t *testing.T) {
	checkForbids(t, "layout L; lexical L = [ ]; "+many+"priority E.A > left E.B;", "E.A 1 E.B", "E.A 5 E.B", "E.A 7 E.B", "E.B 3 E.B")
	checkForbids(t, "layout L; lexical L = [ ]; "+many+"priority non E.A > E.C;", "E.A 1 E.A", "E.A 1 E.C", "E.A 5 E.C", "E.A 7 E.A", "E.A 7 E.C")
}

// A priority of many groups, some of a great many constructors, goes.
func TestForbidsOfMany(t *testing.T) {
	m := manyProds(api.MaxProds)
	m.Prods[0].Right = []api.DefSym{{Name: "E"}, {Name: "E"}}
	var all []api.DefName
	for _, p := range m.Prods {
		all = append(all, api.DefName{Sort: "E", Cons: p.Cons})
	}
	m.Prios = []api.DefPrio{{Groups: []api.DefGroup{{Names: all[:1]}, {Names: all, Assoc: api.AssocNon}, {Names: slices.Repeat(all[:1], api.MaxProds)}}}}
	for i := range api.MaxProds - 3 {
		m.Prios[0].Groups = append(m.Prios[0].Groups, api.DefGroup{Names: all[i : i+1], Assoc: api.AssocLeft})
	}
	if g := made(t, m); len(g.Forbid) != 2*(api.MaxProds-1) {
		t.Errorf("P7.1: Make of many constructors: %d forbidden", len(g.Forbid))
	}
}

// checkFollows asks for what may not follow what.
func checkFollows(t *testing.T, text string, want ...string) {
	t.Helper()
	g := made(t, read(text))
	var got []string
	for i, f := range g.Follow {
		got = append(got, g.Sorts[f.Sort]+" "+sets.Text(f.Not))
		if i > 0 && g.Follow[i-1].Sort >= f.Sort {
			t.Errorf("P7.1: Make(%s): not in order: %v", text, g.Follow)
		}
	}
	if !slices.Equal(got, want) {
		t.Errorf("P7.1: Make(%s): what may not follow: %q, want %q", text, got, want)
	}
}

func TestFollows(t *testing.T) {
	base := `start E; lexical N = "n" [0-9]+; lexical N = "if" (reject); lexical L = [ ]; syntax E.A = N "a" { L "," }*; syntax E.B = "\n"; `
	checkFollows(t, base)
	checkFollows(t, base+"restrict N not [0-9];", "N [0-9]")
	checkFollows(t, base+"restrict N not [0-9]; restrict E not [ab]; restrict L not [^];", "E [ab]", "L [^]", "N [0-9]")
	checkFollows(t, base+`restrict "a" not [b]; restrict "n" not [c]; restrict "," not [d]; restrict "\x0a" not [e]; restrict E not [f];`, "E [f]", `"," [d]`, `"\n" [e]`, `"a" [b]`, `"n" [c]`)
	checkFollows(t, base+`restrict "q" not [b]; restrict "if" not [c]; restrict "N" not [d]; restrict "aa" not [e];`) // the grammar has none of these: a rejecting production asks for no literal
	checkFollows(t, base+`restrict N not [c]; restrict N not [a]; restrict N not [b]; restrict "a" not [1]; restrict "a" not [2];`, "N [a-c]", `"a" [12]`)
	checkFollows(t, base+`restrict N not []; restrict "a" not [];`) // nothing that may not follow
	checkFollows(t, base+"restrict L not [ ];", `L [\x20]`)         // without a Layout there is no gap
	checkFollows(t, base+"layout L;")
	checkFollows(t, base+"layout L; restrict N not [0-9];", "N [0-9]")
	checkFollows(t, base+`layout L; restrict L not [ ]; restrict L not [\n]; restrict E not [e];`, `<gap> [\n\x20]`, "E [e]", `L [\n\x20]`)
	checkFollows(t, base+`layout L; restrict L not []; restrict "L" not [x];`)
	checkFollows(t, base+`layout N; restrict N not [0-9]; restrict L not [ ];`, "<gap> [0-9]", `L [\x20]`, "N [0-9]")
	checkFollows(t, base+`comment L; restrict L not [ ];`, `L [\x20]`)
}
