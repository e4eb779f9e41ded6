package facts_test

import (
	"fmt"
	"testing"

	"rosetta/api"
	"rosetta/facts"
	"rosetta/sets"
)

func TestFirst(t *testing.T) {
	checkAll(t, "a set", read("S", "S = [abx] [y]"), want{"First": "S[abx]"})
	checkAll(t, "two productions", read("S", "S = [a] [y]", "S = [z]"), want{"First": "S[az]"})
	checkAll(t, "far, the last first", read("S A B", "B = [b]", "A = B", "S = A"), want{"First": "S[b] A[b] B[b]"})
	checkAll(t, "far, the first first", read("S A B", "S = A", "A = B", "B = [b]"), want{"First": "S[b] A[b] B[b]"})
	checkAll(t, "behind what may be nothing", read("S A B", "S = A B A [s]", "A = [a]", "A =", "B = [b]", "B ="), want{"First": "S[abs] A[a] B[b]"})
	checkAll(t, "up to what may not be nothing", read("S A B", "S = A B A [s]", "A = [a]", "A =", "B = [b]"), want{"First": "S[ab] A[a] B[b]"})
	checkAll(t, "up to a set", read("S A", "S = A [s] [t] A", "A = [a]", "A ="), want{"First": "S[as] A[a]"})
	checkAll(t, "the empty text alone", read("S A", "S = A A", "A ="), want{"First": ""})
	checkAll(t, "behind the empty text alone", read("S A", "S = A A [s]", "A ="), want{"First": "S[s]"})
	checkAll(t, "itself first", read("S", "S = S [a]", "S = [b]"), want{"First": "S[b]"})
	checkAll(t, "itself first, or nothing", read("S", "S = S [a]", "S ="), want{"First": "S[a]"})
	checkAll(t, "no text at its end", read("S D", "S = [s] D", "S = [t]", "D = [d] D"), want{"First": "S[t]"})
	checkAll(t, "no text at its begin", read("S D", "S = D [s]", "S = [t]", "D = D"), want{"First": "S[t]"})
	checkAll(t, "no text behind what may be nothing", read("S A D", "S = A D", "S = A [t]", "A = [a]", "A =", "D = [d] D"), want{"First": "S[at] A[a]"})
	checkAll(t, "no text far behind", read("S D", "S = [s] [x] [y] [z] D", "D = S D"), want{"First": "", "Productive": ""})
	checkAll(t, "not reached", read("S A", "S = [s]", "A = [a]"), want{"First": "S[s] A[a]"})
	checkAll(t, "of a Start that has no text", read("S A", "S = A S", "A = [a]"), want{"First": "A[a]"})
	checkAll(t, "rejected", read("S", "S = [s]", "S = [r] : reject"), want{"First": "S[s]"})
	checkAll(t, "in one another", read("S A", "S = A [s]", "A = S [a]", "A = [b]", "S = [t]"), want{"First": "S[bt] A[bt]"})
}

func TestFollow(t *testing.T) {
	checkAll(t, "sets behind", read("S A", "S = A [xy] A [z]", "A = [a]"), want{"Follow": "A[x-z]", "Ends": "S"})
	checkAll(t, "a sort behind", read("S A B", "S = A B", "A = [a]", "B = [bc] [d]"), want{"Follow": "A[bc]", "Ends": "S B"})
	checkAll(t, "behind a set, behind a sort that may not be nothing", read("S A B", "S = A [x] B [y]", "S = A B [z]", "A = [a]", "B = [b]"), want{"Follow": "A[bx] B[yz]", "Ends": "S"})
	// What follows the last symbol, and the last but one with something behind it that may be nothing.
	checkAll(t, "the last one of the Start", read("S A", "S = [s] A", "A = [a]"), want{"Follow": "", "Ends": "S A"})
	checkAll(t, "the last but one of the Start", read("S A E", "S = A E", "A = [a]", "E = [e]", "E ="), want{"Follow": "A[e]", "Ends": "S A E"})
	checkAll(t, "the last but two of the Start", read("S A E F", "S = A E F", "A = [a]", "E = [e]", "E =", "F =", "F = [f]"), want{"Follow": "A[ef] E[f]", "Ends": "S A E F"})
	checkAll(t, "the last but one, a byte behind", read("S A E", "S = A E [s]", "A = [a]", "E = [e]", "E ="), want{"Follow": "A[es] E[s]", "Ends": "S"})
	checkAll(t, "the last one of a sort in the Start", read("S A B", "S = A [x]", "S = A", "A = [a] B", "B = [b]"), want{"Follow": "A[x] B[x]", "Ends": "S A B"})
	checkAll(t, "the last one of a sort that never ends", read("S A B", "S = A [x]", "A = [a] B", "B = [b]"), want{"Follow": "A[x] B[x]", "Ends": "S"})
	checkAll(t, "the last but one of a sort in the Start", read("S A B E", "S = A [x]", "A = B E", "B = [b]", "E = [e]", "E ="), want{"Follow": "A[x] B[ex] E[x]", "Ends": "S"})
	checkAll(t, "the last one of a Start in itself", read("S A", "S = [l] S [r]", "S = [s] A", "A = [a]"), want{"Follow": "S[r] A[r]", "Ends": "S A"})
	checkAll(t, "the last but one of a Start in itself", read("S A E", "S = [l] S [r]", "S = A E", "A = [a]", "E = [e]", "E ="), want{"Follow": "S[r] A[er] E[r]", "Ends": "S A E"})
	checkAll(t, "the last one of a sort in itself", read("S A B", "S = A", "A = [l] A [r]", "A = B", "B = [b]"), want{"Follow": "A[r] B[r]", "Ends": "S A B"})
	checkAll(t, "the last but one of a sort in itself", read("S A B E", "S = A [x]", "A = A [m] A", "A = B E", "B = [b]", "E = [e]", "E ="), want{"Follow": "A[mx] B[emx] E[mx]", "Ends": "S"})
	checkAll(t, "in itself at the end", read("S", "S = [a] S", "S = [b]"), want{"Follow": "", "Ends": "S"})
	checkAll(t, "in itself at the begin", read("S", "S = S [a]", "S = [b]"), want{"Follow": "S[a]", "Ends": "S"})
	checkAll(t, "in itself, something behind that may be nothing", read("S E", "S = S E", "S = [s]", "E = [e]", "E ="), want{"Follow": "S[e] E[e]", "Ends": "S E"})
	checkAll(t, "twice in itself", read("S", "S = S S", "S = [ab]"), want{"Follow": "S[ab]", "Ends": "S"})
	// A tree that has an empty text stands where it stands.
	checkAll(t, "nothing ahead of a byte", read("S A", "S = A [x]", "A ="), want{"Follow": "A[x]", "Ends": "S"})
	checkAll(t, "nothing between bytes", read("S A", "S = [x] A [y] A [z]", "A ="), want{"Follow": "A[yz]", "Ends": "S"})
	checkAll(t, "nothing at the end", read("S A", "S = [x] A", "A ="), want{"Follow": "", "Ends": "S A"})
	checkAll(t, "nothing in nothing", read("S A B", "S = A B A [x]", "A = B B", "B ="), want{"Follow": "A[x] B[x]", "Ends": "S"})
	checkAll(t, "nothing at all", read("S A B", "S = A B A", "A = B B", "B ="), want{"Follow": "", "Ends": "S A B"})
	checkAll(t, "nothing behind nothing, something behind", read("S A B C", "S = A B C", "A =", "B =", "C = [c]"), want{"Follow": "A[c] B[c]", "Ends": "S C"})
	checkAll(t, "nothing in itself", read("S A", "S = [s] A [t]", "A = A [a] A", "A ="), want{"Follow": "A[at]", "Ends": "S"})
	// What is in no tree of the Start.
	checkAll(t, "a Start that has no text", read("S A B", "S = A [x] S", "S = A B S", "A = [a] B", "B = [b]"), want{"Follow": "", "Ends": "", "Reached": "S A B", "First": "A[a] B[b]"})
	checkAll(t, "a Start without productions", read("S A B", "A = B [x]", "B = [b]"), want{"Follow": "", "Ends": ""})
	checkAll(t, "a Start that leads to what has no text alone", read("S A D", "S = A D", "A = [a]", "D = A D"), want{"Follow": "", "Ends": ""})
	checkAll(t, "reached only beside what has no text", read("S A D B", "S = [s]", "S = A [x] D", "A = [a] B", "B = [b]", "D = D"), want{"Follow": "", "Ends": "S", "Reached": "S A D B"})
	checkAll(t, "reached only beside what has no text, at the end", read("S A D", "S = [s]", "S = D A", "A = [a]", "D = D"), want{"Follow": "", "Ends": "S", "Reached": "S A D"})
	checkAll(t, "reached beside what has no text, and else", read("S A D", "S = A [y]", "S = A [x] D", "S = A D", "A = [a]", "D = [d] D"), want{"Follow": "A[y]", "Ends": "S", "Reached": "S A D"})
	checkAll(t, "far from what is reached so", read("S A D B C", "S = [s] C", "S = A D", "A = B [x] B", "B = C [y]", "C = [c]", "D = D"), want{"Follow": "", "Ends": "S C", "Reached": "S A D B C"})
	checkAll(t, "not reached", read("S A B", "S = A [x]", "B = A [y] B", "B = A", "A = [a]"), want{"Follow": "A[x]", "Ends": "S", "Reached": "S A"})
	checkAll(t, "not reached, ahead of what is", read("B A S", "B = A [y]", "A = [a] B", "A = [c]", "S = [s]", "start S"), want{"Follow": "", "Ends": "S"})
	checkAll(t, "another Start", read("A S B", "S = A [x] B [y]", "A = [a]", "B = A [z]", "start B"), want{"Follow": "A[z]", "Ends": "B"})
	checkAll(t, "rejected", read("S A", "S = A [x]", "A = [a] : reject", "A = [b]", "S = [c] : reject"), want{"Follow": "A[x]", "Ends": "S"})
	checkAll(t, "rejected behind", read("S A B", "S = A B [x]", "A = [a]", "B = [b]", "B = : reject", "B = [c] : reject"), want{"Follow": "A[b] B[x]", "Ends": "S"})
	checkAll(t, "far, the first first", read("S A B C", "S = A [x]", "A = B", "B = C", "C = [c]"), want{"Follow": "A[x] B[x] C[x]", "Ends": "S"})
	checkAll(t, "far, the last first", read("S A B C", "C = [c]", "B = C", "A = B", "S = A [x]", "S = A"), want{"Follow": "A[x] B[x] C[x]", "Ends": "S A B C"})
	checkAll(t, "what is met later, of a sort asked ahead", read("S A B", "A = [a] B", "B = [b]", "S = A [x]", "S = [s] B [y]"), want{"Follow": "A[x] B[xy]", "Ends": "S"})
}

// Sets as great and as high as can be.
func TestAllBytes(t *testing.T) {
	checkAll(t, "all bytes", read("S A", "S = A [^] A", "A = [^]", "A ="), want{"First": "S[^] A[^]", "Follow": "A[^]", "Ends": "S A", "Shortest": "1 0", "Sample": "S \x00, A"})
	checkAll(t, "all bytes alone", read("S", "S = [^]"), want{"First": "S[^]", "Follow": "", "Sample": "S \x00"})
	checkAll(t, "the last byte alone", read("S A", `S = A [\xff]`, `A = [\xff]`), want{"First": `S[\xff] A[\xff]`, "Follow": `A[\xff]`, "Ends": "S", "Shortest": "2 1", "Sample": "S \xff\xff, A \xff"})
	checkAll(t, "the first byte alone", read("S A", `S = A [\x00]`, `A = [\x00]`), want{"First": `S[\x00] A[\x00]`, "Follow": `A[\x00]`, "Sample": "S \x00\x00, A \x00"})
	for b := range 256 {
		one := api.Sym{Set: sets.Of(byte(b))}
		rest := api.Sym{Set: sets.Not(one.Set)}
		g := api.Grammar{Sorts: []string{"S", "A"}, Prods: []api.Prod{{Right: []api.Sym{sort(1), one}}, {Right: []api.Sym{sort(1), sort(1), rest}}, {Left: 1, Right: []api.Sym{one}}}}
		if l, e := facts.First(g); e != api.OK || l[0] != one.Set || l[1] != one.Set {
			t.Errorf("P8.2: First by byte %d: %v %v", b, l, e)
		}
		if l, e := facts.Follow(g); e != api.OK || l[0] != (api.Set{}) || l[1] != sets.All() {
			t.Errorf("P8.2: Follow by byte %d: %v %v", b, l, e)
		}
		if s, e := facts.Sample(g, 0); e != api.OK || s != string([]byte{byte(b), byte(b)}) {
			t.Errorf("P8.3: Sample by byte %d: %q %v", b, s, e)
		}
		g.Prods[2].Right[0] = rest
		least := byte(0)
		if b == 0 {
			least = 1
		}
		if s, e := facts.Sample(g, 1); e != api.OK || s != string([]byte{least}) {
			t.Errorf("P8.3: Sample without byte %d: %q %v", b, s, e)
		}
	}
}

// Each byte goes its own way through chains of sorts, up and down, whatever stands ahead of what.
func TestFarSets(t *testing.T) {
	const deep = 250
	for _, upward := range []bool{true, false} {
		g := api.Grammar{}
		for n := range deep {
			g.Sorts = append(g.Sorts, fmt.Sprint("T", n))
		}
		for i := range deep {
			n := i
			if upward {
				n = deep - 1 - i
			}
			g.Prods = append(g.Prods, api.Prod{Left: n, Right: []api.Sym{{Set: sets.Of(byte(n))}}})
			if n+1 < deep {
				g.Prods = append(g.Prods, api.Prod{Left: n, Right: []api.Sym{sort(n + 1)}})
				g.Prods = append(g.Prods, api.Prod{Left: n, Right: []api.Sym{sort(n + 1), {Set: sets.Of(byte(n))}}})
			}
		}
		firsts, _ := facts.First(g)
		follows, _ := facts.Follow(g)
		for n := range deep {
			if l := sets.Ranges(firsts[n]); len(l) != 1 || l[0] != (api.Range{From: byte(n), To: deep - 1}) {
				t.Fatalf("P8.2: First of %d: %v", n, l)
			}
			var want []api.Range
			if n > 0 {
				want = []api.Range{{From: 0, To: byte(n - 1)}}
			}
			if l := sets.Ranges(follows[n]); fmt.Sprint(l) != fmt.Sprint(want) {
				t.Fatalf("P8.2: Follow of %d: %v, want %v", n, l, want)
			}
		}
	}
}
