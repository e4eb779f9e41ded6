package glr_test

import (
	"fmt"
	"slices"
	"strings"
	"testing"

	"rosetta/api"
	"rosetta/glr"
	"rosetta/sets"
)

// What is read byte by byte, and what is not.
func TestBytes(t *testing.T) {
	g := read("S", "S = [a] [b]")
	checkRun(t, "nothing", g, "", 0, "0 [a]")
	checkRun(t, "a beginning", g, "a", 1, "1 [b]")
	checkRun(t, "the whole", g, "ab", 3, "2 []", "S 0 2 0: 1 2")
	checkRun(t, "more than the whole", g, "abc", 3, "2 []", "S 0 2 0: 1 2")
	checkRun(t, "another byte at once", g, "xab", 0, "0 [a]")
	checkRun(t, "another byte, then one that may come", g, "aab", 1, "1 [b]")
	checkRun(t, "two productions", read("S", "S = [a] [c]", "S = [a] [b]"), "ab", 3, "2 []", "S 0 2 1: 1 2")
	checkRun(t, "a sort", read("S A", "S = [x] A [y]", "A = [a]"), "xay", 6, "3 []", "S 0 3 0: 1 2 3", "A 1 2 1: 2")
	checkRun(t, "a part alone, of what is not whole", read("S A", "S = [x] A [y]", "A = [a]"), "xax", 4, "2 [y]", "A 1 2 1: 2")
	checkRun(t, "a sort that may not stand there", read("S A", "S = [x] A", "A = [a]"), "ax", 0, "0 [x]")
	checkRun(t, "a Start that is not the first sort", read("A S", "A = [a]", "S = A A", "start S"), "aa", 7, "2 []", "A 0 1 0: 1", "A 1 2 0: 2", "S 0 2 1: 1 2")
}

// The first byte and the last one, and such as no set has.
func TestAllBytes(t *testing.T) {
	g := read("S", `S = S [\x00\xff]`, `S = [\x00]`)
	checkRun(t, "byte 0", g, "\x00", 3, `1 [\x00\xff]`, "S 0 1 1: 1")
	checkRun(t, "byte 255", g, "\x00\xff", 6, `2 [\x00\xff]`, "S 0 1 1: 1", "S 0 2 0: 1 2")
	checkRun(t, "byte 255 first", g, "\xff", 0, `0 [\x00]`)
	for b := range 256 {
		text := string([]byte{byte(b)})
		g := api.Grammar{Sorts: []string{"S"}, Prods: []api.Prod{{Right: []api.Sym{set(text)}, From: -1}}}
		for c := range 256 {
			w := 0
			if c == b {
				w = 1
			}
			if got, e := glr.Run(g, string([]byte{byte(c)}), plenty); e != api.OK || len(got.Alts) != w || got.Far != w || got.Steps != 2*w {
				t.Errorf("P10.1: byte %d of a set of %d: %+v %v", c, b, got, e)
			}
		}
		if next, at, e := glr.Prefix(g, "", plenty); next != sets.Of(byte(b)) || !at || e != api.OK {
			t.Errorf("P10.2: byte %d: %v %v %v", b, next, at, e)
		}
		if w := ran(t, read("S", "S = [^] S", "S ="), text); w.Far != 1 || w.Next != sets.All() || len(w.Alts) != 3 {
			t.Errorf("P10.1: byte %d of all: %+v", b, w)
		}
	}
	checkRun(t, "no UTF-8", read("S", "S = S S", "S = [^a]"), "\xc3\x28", 8, "2 [^a]", "S 0 1 1: 1", "S 0 2 0: 1 2", "S 1 2 1: 2")
}

// Sets that overlap: the byte that both have, and those that one has.
func TestSetsThatOverlap(t *testing.T) {
	g := read("S A B", "S = A", "S = B", "A = [ab]", "B = [bc]")
	checkRun(t, "of the first alone", g, "a", 4, "1 []", "S 0 1 0: 1", "A 0 1 2: 1")
	checkRun(t, "of both", g, "b", 7, "1 []", "S 0 1 0: 1", "S 0 1 1: 1", "A 0 1 2: 1", "B 0 1 3: 1")
	checkRun(t, "of the second alone", g, "c", 4, "1 []", "S 0 1 1: 1", "B 0 1 3: 1")
	checkRun(t, "in one state by both", read("S", "S = S S", "S = [ab]", "S = [bc]"), "bc", 9, "2 [a-c]", "S 0 1 1: 1", "S 0 1 2: 1", "S 0 2 0: 1 2", "S 1 2 2: 2")
}

// Productions of no symbols, at the text's beginning, in its middle, at its end.
func TestNothing(t *testing.T) {
	checkRun(t, "the Start is nothing", read("S", "S ="), "", 1, "0 []", "S 0 0 0")
	checkRun(t, "the Start is nothing, of a text", read("S", "S ="), "a", 1, "0 []", "S 0 0 0")
	checkRun(t, "the chapter's G, with nothing", read("S", "S =", "S = S S", "S = [a]"), "a", 18, "1 [a]",
		"S 0 0 0", "S 0 0 1: 0 0", "S 0 1 1: 0 1", "S 0 1 1: 1 1", "S 0 1 2: 1", "S 1 1 0", "S 1 1 1: 1 1")
	checkRun(t, "at the beginning", read("S A", "S = A [x] [y]", "A ="), "xy", 5, "2 []", "S 0 2 0: 0 1 2", "A 0 0 1")
	checkRun(t, "in the middle", read("S A", "S = [x] A [y]", "A ="), "xy", 5, "2 []", "S 0 2 0: 1 1 2", "A 1 1 1")
	checkRun(t, "at the end", read("S A", "S = [x] [y] A", "A ="), "xy", 5, "2 []", "S 0 2 0: 1 2 2", "A 2 2 1")
	checkRun(t, "in all places", read("S A", "S = A [x] A [y] A", "A ="), "xy", 9, "2 []", "S 0 2 0: 0 1 1 2 2", "A 0 0 1", "A 1 1 1", "A 2 2 1")
	checkRun(t, "alone", read("S A", "S = A", "A ="), "", 3, "0 []", "S 0 0 0: 0", "A 0 0 1")
	checkRun(t, "twice", read("S A", "S = A A", "A ="), "", 4, "0 []", "S 0 0 0: 0 0", "A 0 0 1")
	checkRun(t, "nothing or a byte, on both sides", read("S A", "S = A A", "A =", "A = [a]"), "a", 13, "1 [a]",
		"S 0 0 0: 0 0", "S 0 1 0: 0 1", "S 0 1 0: 1 1", "A 0 0 1", "A 0 1 2: 1", "A 1 1 1")
}

// A sort that is nothing, within a sort that is nothing.
func TestNothingInNothing(t *testing.T) {
	checkRun(t, "one", read("S A B", "S = [x] A", "A = B", "B ="), "x", 6, "1 []", "S 0 1 0: 1 1", "A 1 1 1: 1", "B 1 1 2")
	checkRun(t, "two side by side", read("S A B", "S = A [x]", "A = B B", "B ="), "x", 7, "1 []", "S 0 1 0: 0 1", "A 0 0 1: 0 0", "B 0 0 2")
	checkRun(t, "three in one another", read("S A B C", "S = A [x] A", "A = B", "B = C", "C ="), "x", 14, "1 []",
		"S 0 1 0: 0 1 1", "A 0 0 1: 0", "A 1 1 1: 1", "B 0 0 2: 0", "B 1 1 2: 1", "C 0 0 3", "C 1 1 3")
	checkRun(t, "told inside out", read("S A B C", "C =", "B = C", "A = B", "S = A [x] A"), "x", 14, "1 []",
		"S 0 1 3: 0 1 1", "A 0 0 2: 0", "A 1 1 2: 1", "B 0 0 1: 0", "B 1 1 1: 1", "C 0 0 0", "C 1 1 0")
	checkRun(t, "one behind two others, found late", read("S A B", "S = A B [x]", "A = B", "B =", "B = A A"), "x", 11, "1 []",
		"S 0 1 0: 0 0 1", "A 0 0 1: 0", "B 0 0 2", "B 0 0 3: 0 0")
}

// A production that stands in itself, by way of sorts that are nothing: each alternative and each edge is told once.
func TestRoundAndRound(t *testing.T) {
	checkRun(t, "itself alone", read("S", "S = S", "S = [a]"), "a", 4, "1 []", "S 0 1 0: 1", "S 0 1 1: 1")
	checkRun(t, "itself alone, of nothing", read("S", "S = S", "S ="), "", 3, "0 []", "S 0 0 0: 0", "S 0 0 1")
	checkRun(t, "nothing but itself", read("S", "S = S"), "", 0, "0 []")
	checkRun(t, "at the left", read("S A", "S = S A", "S = [x]", "A ="), "x", 6, "1 []", "S 0 1 0: 1 1", "S 0 1 1: 1", "A 1 1 2")
	checkRun(t, "at the right", read("S A", "S = A S", "S = [x]", "A ="), "x", 8, "1 []", "S 0 1 0: 0 1", "S 0 1 1: 1", "A 0 0 2")
	checkRun(t, "in the middle", read("S A", "S = A S A", "S = [x]", "A ="), "x", 10, "1 []", "S 0 1 0: 0 1 1", "S 0 1 1: 1", "A 0 0 2", "A 1 1 2")
	checkRun(t, "in the middle, and no whole", read("S A", "S = A S [b]", "S = [x]", "A ="), "xbb", 13, "3 [b]",
		"S 0 1 1: 1", "S 0 2 0: 0 1 2", "S 0 3 0: 0 2 3", "A 0 0 2")
	checkRun(t, "round and round", read("S A B", "S = A", "A = B", "B = S", "B = [b]"), "b", 8, "1 []", "S 0 1 0: 1", "A 0 1 1: 1", "B 0 1 2: 1", "B 0 1 3: 1")
	checkRun(t, "round and round by nothing", read("S A B", "S = A B", "A = B S", "B = S", "S =", "B ="), "", 17, "0 []",
		"S 0 0 0: 0 0", "S 0 0 3", "A 0 0 1: 0 0", "B 0 0 2: 0", "B 0 0 4")
	checkRun(t, "three times", read("S", "S = S S S", "S ="), "", 6, "0 []", "S 0 0 0: 0 0 0", "S 0 0 1")
	checkRun(t, "two sorts in each other at the left", read("S A", "S = A [x]", "A = S", "A = [a]", "A ="), "axx", 15, "3 [x]",
		"S 0 2 0: 1 2", "S 0 3 0: 2 3", "A 0 0 3", "A 0 1 2: 1", "A 0 2 1: 2", "A 0 3 1: 3")
}

// Two productions that are the same have an alternative each, over one edge.
func TestSameProductions(t *testing.T) {
	checkRun(t, "of a byte", read("S", "S = [a]", "S = [a]"), "a", 3, "1 []", "S 0 1 0: 1", "S 0 1 1: 1")
	checkRun(t, "of nothing", read("S A", "S = A", "A =", "A ="), "", 4, "0 []", "S 0 0 0: 0", "A 0 0 1", "A 0 0 2")
	checkRun(t, "of sorts", read("S A", "S = A A", "A = [a]", "S = A A"), "aa", 8, "2 []", "S 0 2 0: 1 2", "S 0 2 2: 1 2", "A 0 1 1: 1", "A 1 2 1: 2")
}

// One production over one span, with unlike Cuts: by the first that is unlike.
func TestCuts(t *testing.T) {
	g := read("S A", "S = A A A", "A = A [a]", "A = [a]")
	w := ran(t, g, "aaaaa")
	var got []string
	for _, a := range w.Alts {
		if a.Sort == 0 && a.Until == 5 {
			got = append(got, altText(g, a))
		}
	}
	if want := []string{"S 0 5 0: 1 2 5", "S 0 5 0: 1 3 5", "S 0 5 0: 1 4 5", "S 0 5 0: 2 3 5", "S 0 5 0: 2 4 5", "S 0 5 0: 3 4 5"}; !slices.Equal(got, want) {
		t.Errorf("P10.1: %v, want %v", got, want)
	}
	checkModels(t, g, "aaaaa")
	// By way of unlike states: the same part, begun in two ways, is told once, with an edge of each.
	checkRun(t, "two ways to a part", read("S A B C", "S = A C [x]", "S = B C [y]", "A = [a]", "B = [a]", "C = [c] [c]"), "acc", 11, "3 [xy]",
		"A 0 1 2: 1", "B 0 1 3: 1", "C 1 3 4: 2 3")
}

// Productions of RoleReject make no edges and no alternatives.
func TestReject(t *testing.T) {
	checkRun(t, "one beside another", read("S", "S = [a]", "S = [a] : reject", "S = [b] : reject"), "a", 2, "1 []", "S 0 1 0: 1")
	checkRun(t, "what they alone have", read("S", "S = [a]", "S = [b] : reject", "S = : reject"), "b", 0, "0 [a]")
	checkRun(t, "a Start that rejects alone", read("S", "S = [a] : reject", "S = : reject"), "a", 0, "0 []")
	checkRun(t, "a sort that rejects alone", read("S A", "S = A", "S = [x]", "A = [a] : reject", "A = : reject"), "a", 0, "0 [x]")
	checkRun(t, "ahead of others", read("S A", "A = : reject", "A = [a] : reject", "S = A [x]", "A = [a]"), "ax", 5, "2 []", "S 0 2 2: 1 2", "A 0 1 3: 1")
}

// A Start without a production has its first node alone.
func TestNoProduction(t *testing.T) {
	for _, g := range []api.Grammar{read("S"), read("S A", "A = S", "A = [a]", "A ="), read("S A", "S = A"), read("S A", "S = A S", "A = A")} {
		for _, text := range []string{"", "a", "\x00", "aa"} {
			checkRun(t, "no production", g, text, 0, "0 []")
		}
	}
}

// Forbid, Follow, Prefer and Avoid change nothing.
func TestFilters(t *testing.T) {
	bare := read("S A", "S = S S", "S = A", "A = A [a]", "A = [a]")
	full := read("S A", "S = S S : prefer", "S = A : avoid", "A = A [a] : prefer", "A = [a] : avoid", "follow A [a]", "follow S [^]", "forbid 0 1 0", "forbid 0 2 0", "forbid 0 2 1", "forbid 2 1 3")
	for _, text := range textsOf("a", 5) {
		x, y := ran(t, bare, text), ran(t, full, text)
		if fmt.Sprint(x) != fmt.Sprint(y) {
			t.Errorf("P10.1: %q: %s, want %s", text, brief(y), brief(x))
		}
		if x, y := sortNames(t, bare, text), sortNames(t, full, text); x != y {
			t.Errorf("P10.2: %q: %s, want %s", text, y, x)
		}
		a, e := glr.Bound(bare, len(text))
		if b, e2 := glr.Bound(full, len(text)); a != b || e != api.OK || e2 != api.OK {
			t.Errorf("P10.3: %d %v, want %d %v", b, e2, a, e)
		}
	}
}

// Alternatives rise by Sort, From, Until, Prod, Cuts: each counts ahead of those behind it.
func TestOrder(t *testing.T) {
	g := read("B A", "A = B", "B = [a]", "A = A B", "A = [a]", "A = A A", "start A")
	checkRun(t, "all", g, "aaa", 31, "3 [a]",
		"B 0 1 1: 1", "B 1 2 1: 2", "B 2 3 1: 3",
		"A 0 1 0: 1", "A 0 1 3: 1",
		"A 0 2 2: 1 2", "A 0 2 4: 1 2",
		"A 0 3 2: 2 3", "A 0 3 4: 1 3", "A 0 3 4: 2 3",
		"A 1 2 0: 2", "A 1 2 3: 2",
		"A 1 3 2: 2 3", "A 1 3 4: 2 3",
		"A 2 3 0: 3", "A 2 3 3: 3")
	// Eleven sorts and productions: by numbers, not by digits.
	names := []string{"S"}
	lines := []string{"S = [x] S"}
	for i := range 11 {
		names = append(names, fmt.Sprint("T", i))
		lines = append(lines, fmt.Sprint("S = T", i, " S"), fmt.Sprint("T", i, " = [a]"), fmt.Sprint("T", i, " = [a]"))
	}
	w := ran(t, read(strings.Join(names, " "), lines...), strings.Repeat("a", 12))
	if len(w.Alts) != 11*2*12 {
		t.Errorf("P10.1: %d alternatives", len(w.Alts))
	}
	key := func(a api.Alt) []int { return append([]int{a.Sort, a.From, a.Until, a.Prod}, a.Cuts...) }
	for i := range w.Alts[1:] {
		if slices.Compare(key(w.Alts[i]), key(w.Alts[i+1])) >= 0 {
			t.Fatalf("P10.1: %+v ahead of %+v", w.Alts[i], w.Alts[i+1])
		}
	}
}

// Where a text goes no further: Far and Next there, and nothing of Prefix and Sorts at its end.
func TestGoesNoFurther(t *testing.T) {
	g := read("S A", "S = A [x] A", "A = [a]", "A =")
	checkRun(t, "at its second byte", g, "abxa", 5, "1 [x]", "A 0 0 2", "A 0 1 1: 1")
	checkRun(t, "behind the whole", g, "xx", 6, "1 [a]", "S 0 1 0: 0 1 1", "A 0 0 2", "A 1 1 2")
	for text, want := range map[string]string{"": "A", "a": "", "x": "A", "ax": "A", "axa": "", "xa": "", "b": "", "axb": "", "axax": "", "aa": ""} {
		if got := sortNames(t, g, text); got != want {
			t.Errorf("P10.2: Sorts of %q: %s, want %s", text, got, want)
		}
	}
	for text, want := range map[string]string{"": "[ax] true", "a": "[x] true", "x": "[a] true", "xa": "[] true", "axa": "[] true", "b": "[] false", "axb": "[] false", "xax": "[] false", "aa": "[] false"} {
		next, at, e := glr.Prefix(g, text, plenty)
		if got := fmt.Sprint(sets.Text(next), " ", at); got != want || e != api.OK {
			t.Errorf("P10.2: Prefix of %q: %s %v, want %s", text, got, e, want)
		}
	}
}

// Sorts rise, each once, though several states tell them; the Start is one where a production asks for it.
func TestSorts(t *testing.T) {
	g := read("S A B C D", "S = [x] D [y]", "S = [x] B A", "S = C S", "C = [x]", "D = [d]", "B =", "A = D", "A = B", "D = D D", "C = A", "A = [x]")
	for text, want := range map[string]string{"": "S A B C D", "x": "S A B C D", "xx": "S A B C D", "xd": "S A B C D", "xdy": "", "d": "S A B C D", "xdd": "S A B C D", "y": ""} {
		if got := sortNames(t, g, text); got != want {
			t.Errorf("P10.2: Sorts of %q: %s, want %s", text, got, want)
		}
		checkModels(t, g, text)
	}
	if got := sortNames(t, read("S", "S = [a]", "S ="), ""); got != "" {
		t.Errorf("P10.2: Sorts of the Start alone: %s", got)
	}
	if got := sortNames(t, read("S", "S = [a]", "S = [b] S"), "b"); got != "S" {
		t.Errorf("P10.2: Sorts behind b: %s", got)
	}
}
