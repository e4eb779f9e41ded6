package facts_test

import (
	"testing"

	"rosetta/api"
)

func TestProductive(t *testing.T) {
	checkAll(t, "one behind the other, the last one first", read("S A B C", "S = A", "A = B", "B = C", "C = [c]"), want{"Productive": "S A B C"})
	checkAll(t, "one behind the other, the first one first", read("S A B C", "C = [c]", "B = C", "A = B", "S = A"), want{"Productive": "S A B C"})
	checkAll(t, "one part has none", read("S A B", "S = A B", "A = [a]", "B = B [b]"), want{"Productive": "A"})
	checkAll(t, "the first part has none", read("S A B", "S = B [s] A", "A = [a]", "B = [b] B"), want{"Productive": "A"})
	checkAll(t, "a part has none, another production does", read("S A B", "S = A B", "S = A A", "A = [a]"), want{"Productive": "S A"})
	checkAll(t, "a ring without an end", read("S A B C", "S = A", "A = B", "B = C", "C = A"), want{"Productive": ""})
	checkAll(t, "a ring with an end", read("S A B C", "S = A", "A = B", "B = C", "C = A", "B = [b]"), want{"Productive": "S A B C"})
	checkAll(t, "not reached", read("S A B", "S = [s]", "A = [a]", "B = A"), want{"Productive": "S A B", "Reached": "S"})
	checkAll(t, "rejected alone", read("S A B", "S = A", "S = B", "A = [a] : reject", "A = : reject", "B = : reject", "B ="), want{"Productive": "S B"})
	checkAll(t, "a Start that is not the first", read("S A", "A = S", "S = [s]", "start A"), want{"Productive": "S A"})
}

func TestReached(t *testing.T) {
	checkAll(t, "the Start alone", read("S A", "S = [s]", "A = S"), want{"Reached": "S"})
	checkAll(t, "the Start without productions", read("S A", "A = S"), want{"Reached": "S"})
	checkAll(t, "another Start", read("S A B", "S = A", "A = B", "start A"), want{"Reached": "A B"})
	checkAll(t, "far, in each order", read("S A B C", "C = C", "B = [b] C", "A = B", "S = [s] [s] A"), want{"Reached": "S A B C"})
	checkAll(t, "far, the first one first", read("S A B C", "S = A", "A = B", "B = C"), want{"Reached": "S A B C"})
	checkAll(t, "through what has no text", read("S A B C", "S = [s]", "S = A B", "A = A C", "B = [b]", "C = [c]"), want{"Reached": "S A B C", "Productive": "S B C"})
	checkAll(t, "behind a symbol that has no text", read("S A B", "S = A B", "A = A", "B = [b]"), want{"Reached": "S A B"})
	checkAll(t, "each symbol of a production", read("A B C D S", "S = A [x] B C", "D = D", "start S"), want{"Reached": "A B C S"})
	checkAll(t, "what leads to itself", read("S A B", "S = S", "A = B A", "B = A"), want{"Reached": "S"})
}

func TestNullable(t *testing.T) {
	checkAll(t, "no symbols", read("S A", "S =", "A = [a]"), want{"Nullable": "S"})
	checkAll(t, "sorts alone that may be nothing", read("S A B", "S = A B A", "A = [a]", "A =", "B = A A"), want{"Nullable": "S A B"})
	checkAll(t, "the last first", read("S A B", "B =", "A = B B", "S = A B"), want{"Nullable": "S A B"})
	checkAll(t, "one that may not", read("S A B", "S = A B A", "A =", "B = [b]"), want{"Nullable": "A"})
	checkAll(t, "the first that may not", read("S A B", "S = B A", "A =", "B = [b]"), want{"Nullable": "A"})
	checkAll(t, "the last that may not", read("S A B", "S = A B", "A =", "B = [b]"), want{"Nullable": "A"})
	checkAll(t, "a set beside", read("S A", "S = A [s]", "S = [s] A", "A ="), want{"Nullable": "A"})
	checkAll(t, "a set of all bytes", read("S", "S = [^]"), want{"Nullable": ""})
	checkAll(t, "one that has no text", read("S A B", "S = A B", "A =", "B = B"), want{"Nullable": "A"})
	checkAll(t, "rejected alone", read("S A", "S = A", "A = : reject", "A = [a]"), want{"Nullable": ""})
	checkAll(t, "rejected, too", read("S A", "S = A", "A = : reject", "A ="), want{"Nullable": "S A"})
	checkAll(t, "not reached", read("S A", "S = [s]", "A ="), want{"Nullable": "A"})
	checkAll(t, "itself twice", read("S A", "S = S S", "S =", "A = A A"), want{"Nullable": "S"})
}

func TestCircular(t *testing.T) {
	checkAll(t, "its own only symbol", read("S A", "S = A", "A = A", "A = [a]"), want{"Circular": "A"})
	checkAll(t, "the Start its own", read("S A", "S = S", "S = A", "A = [a]"), want{"Circular": "S"})
	checkAll(t, "by two sorts", read("S A B", "S = A", "A = B", "B = A", "B = [b]"), want{"Circular": "A B"})
	checkAll(t, "by three", read("S A B C", "S = A", "A = B", "B = C", "C = A", "A = [a]"), want{"Circular": "A B C"})
	checkAll(t, "by three, and two ways off", read("S A B C D E", "S = A", "A = B", "B = C", "C = A", "A = [a]", "C = D", "D = E", "E = [e]", "B = E"), want{"Circular": "A B C"})
	checkAll(t, "two rings, and a way between", read("S A B C D", "S = A", "A = B", "B = A", "B = S", "B = C", "C = D", "D = D", "D = [d]"), want{"Circular": "S A B D"})
	checkAll(t, "two rings with a sort between", read("A B C", "A = A", "A = B", "B = C", "C = C", "C = [c]"), want{"Circular": "A C"})
	checkAll(t, "no way back", read("S A B C", "S = A", "S = B", "A = C", "B = C", "C = [c]"), want{"Circular": ""})
	checkAll(t, "parts beside that may be nothing, ahead", read("S E", "S = E E S", "S = [s]", "E =", "E = [e]"), want{"Circular": "S"})
	checkAll(t, "parts beside that may be nothing, behind", read("S E", "S = S E E", "S = [s]", "E =", "E = [e]"), want{"Circular": "S"})
	checkAll(t, "parts beside that may be nothing, around", read("S A E", "S = E A E", "A = E S E", "A = [a]", "E = E E", "E ="), want{"Circular": "S A E"})
	checkAll(t, "a part beside that has no empty text", read("S E", "S = E S", "S = S E", "S = [s]", "E = [e]"), want{"Circular": ""})
	checkAll(t, "such a part, one among others", read("S E F", "S = F E S", "S = S F E", "S = E S F", "S = [s]", "E = [e]", "F ="), want{"Circular": ""})
	checkAll(t, "a set beside", read("S", "S = [a] S", "S = S [a]", "S ="), want{"Circular": ""})
	checkAll(t, "on one step of the ring a set beside", read("S A B", "S = A", "A = B", "B = S [b]", "B = [b] S", "B = [b]"), want{"Circular": ""})
	checkAll(t, "twice itself, and nothing", read("S", "S = S S", "S =", "S = [s]"), want{"Circular": "S"})
	checkAll(t, "twice itself, never nothing", read("S", "S = S S", "S = [s]"), want{"Circular": ""})
	checkAll(t, "a way round through what has no text", read("S A B", "S = [s]", "A = B", "B = A"), want{"Circular": "", "Reached": "S"})
	checkAll(t, "a part beside that has no text", read("S D", "S = S D", "S = D S", "S = [s]", "D = D"), want{"Circular": ""})
	checkAll(t, "a ring that has no text, beside one that does", read("S A B C", "S = A", "A = S", "A = [a]", "B = C", "C = B", "S = B"), want{"Circular": "S A"})
	checkAll(t, "by a sort that has one symbol with no text", read("S A D", "S = A", "A = S D", "A = [a]", "D = D"), want{"Circular": ""})
	checkAll(t, "rejected", read("S A", "S = A", "A = [a]", "A = : reject", "S = : reject", "S = S A", "A = A S"), want{"Circular": ""})
	checkAll(t, "not reached", read("S A", "S = [s]", "A = A", "A ="), want{"Circular": "A"})
	checkAll(t, "a Start that has no text", read("S A", "S = S", "A = A", "A ="), want{"Circular": "A"})
	// The text that is the same may be empty.
	checkAll(t, "nothing in nothing", read("S A", "S = A", "A = S A", "A ="), want{"Circular": "S A"})
	checkAll(t, "what may be nothing in what may not", read("S A", "S = A", "A = S A", "A = [a]", "S ="), want{"Circular": "A"})
	checkAll(t, "itself or nothing", read("S A", "S = A S A", "S =", "A ="), want{"Circular": "S"})
}

// What stands beside changes nothing: Forbid, Follow, Prefer, Avoid, productions of RoleReject.
func TestWithoutWhatMayNotBe(t *testing.T) {
	plain := []string{"S = A B [x]", "S = A S", "A =", "A = [a] A", "B = S B", "B = [b] B", "B = A", "C = C", "C = A D", "D = D D"}
	marked := []string{"S = A B [x] : prefer", "S = A S : avoid", "A = : prefer", "A = [a] A : avoid", "B = S B : avoid", "B = [b] B", "B = A : prefer", "C = C", "C = A D : avoid", "D = D D : prefer"}
	rejecting := []string{"S = : reject", "S = [y] : reject", "A = [z] [a] : reject", "B = [^] : reject", "C = : reject", "C = [c] : reject", "D = [d] : reject", "A = : reject", "B = [a] : reject"}
	forbidding := []string{"forbid 0 1 2", "forbid 0 1 3", "forbid 0 2 4", "forbid 0 2 5", "forbid 0 2 6", "forbid 1 1 2", "forbid 1 1 3", "forbid 1 2 0", "forbid 3 2 2", "forbid 6 1 2", "forbid 6 1 3", "forbid 8 1 2"}
	following := []string{"follow S [^]", "follow A [^]", "follow B [abx]", "follow D [d]"}
	answers := want{
		"Productive": "S A B", "Reached": "S A B", "Nullable": "A B", "Circular": "S",
		"First": "S[abx] A[a] B[abx]", "Follow": "S[abx] A[abx] B[x]", "Ends": "S",
		"Shortest": "1 0 0 -1 -1", "Sample": "S x, A, B, C dead, D dead",
	}
	for what, lines := range map[string][][]string{
		"plain": {plain}, "Prefer, Avoid": {marked}, "RoleReject": {plain, rejecting}, "Forbid": {plain, forbidding}, "Follow": {plain, following},
		"all": {marked, rejecting, forbidding, following},
	} {
		var l []string
		for _, part := range lines {
			l = append(l, part...)
		}
		checkAll(t, what, read("S A B C D", l...), answers)
	}
	// Also where they stand ahead of all others.
	checkAll(t, "RoleReject first", read("S A B C D", append(append([]string{}, rejecting...), plain...)...), answers)
	// A sort that is only rejected.
	checkAll(t, "rejected alone", read("S R", "S = [s] R", "R = : reject", "R = [r] : reject", "S = [s]"), want{
		"Productive": "S", "Reached": "S R", "Nullable": "", "Circular": "", "First": "S[s]", "Follow": "", "Ends": "S", "Shortest": "1 -1", "Sample": "S s, R dead",
	})
	g := read("S", "S = [a]")
	g.Prods = append(g.Prods, api.Prod{Role: api.RoleReject, From: -1})
	checkAll(t, "rejected, the empty text of the Start", g, want{"Nullable": "", "Shortest": "1", "Sample": "S a", "First": "S[a]"})
}

// A production may be of each role: all but one of them count.
func TestRoles(t *testing.T) {
	for role := api.RoleCons; role <= api.RoleReject; role++ {
		g := read("S A", "S = A", "S = [s]", "A = [a] [b]")
		g.Prods[2].Role = role
		w := want{"Productive": "S A", "First": "S[as] A[a]", "Shortest": "1 2", "Sample": "S s, A ab", "Ends": "S A"}
		if role == api.RoleReject {
			w = want{"Productive": "S", "First": "S[s]", "Shortest": "1 -1", "Sample": "S s, A dead", "Ends": "S"}
		}
		checkAll(t, "a role", g, w)
	}
}
