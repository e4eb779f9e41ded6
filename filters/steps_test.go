package filters_test

import (
	"testing"

	"rosetta/api"
	"rosetta/sets"
)

// A production of RoleReject that matches, and each way in which one doesn't.
func TestReject(t *testing.T) {
	base := []string{"S = A", "A = [ab]", "A = [ab] [ab]", "A ="}
	with := func(more ...string) api.Grammar { return read("S A B", append(base, more...)...) }
	one := func(what, want string, more ...string) {
		t.Helper()
		g := with(more...)
		check(t, what, g, "ab", list(g, "1: 0 1"), want)
	}
	one("none", ".")
	one("the same", "r", "A = [a] : reject")
	one("a greater set", "r", "A = [a-z] : reject")
	one("all bytes", "r", "A = [^] : reject")
	one("a byte that is not in its set", ".", "A = [b] : reject")
	one("all other bytes", ".", "A = [^a] : reject")
	one("one byte more", ".", "A = [a] [b] : reject")
	one("no symbols", ".", "A = : reject")
	one("of another sort", ".", "S = [a] : reject", "B = [a] : reject")
	one("two, the first matches", "r", "A = [a] : reject", "A = [b] : reject")
	one("two, the second matches", "r", "A = [b] : reject", "A = [a] : reject")
	one("two of unlike lengths, the second matches", "r", "A = [a] [b] : reject", "A = [a] : reject")
	one("two, none matches", ".", "A = [b] : reject", "A = [^a] : reject")
	one("a production that rejects nothing", ".", "A = [a] : prefer")

	two := func(what, want string, more ...string) {
		t.Helper()
		g := with(more...)
		check(t, what, g, "xab", list(g, "2: 1 2 3"), want)
	}
	two("two bytes", "r", "A = [a] [b] : reject")
	two("the first byte is not in its set", ".", "A = [b] [b] : reject")
	two("the last byte is not in its set", ".", "A = [a] [a] : reject")
	two("neither is", ".", "A = [b] [a] : reject")
	two("one byte less", ".", "A = [a] : reject", "A = [b] : reject")
	two("one byte more", ".", "A = [a] [b] [^] : reject", "A = [^] [a] [b] : reject")

	g := with("A = : reject")
	check(t, "no symbols over an empty text", g, "", list(g, "0: 0 0", "3: 0"), "dr")
	check(t, "no symbols over an empty place of a text", g, "ab", list(g, "1: 0 1", "3: 1", "1: 1 2", "3: 2"), ".r.r")
	g = with("A = [^] : reject")
	check(t, "a symbol over an empty text", g, "", list(g, "0: 0 0", "3: 0"), "..")
	g = read("S", "S = [\\x00] [\\xff]", "S = [\\x00] [\\xff] : reject", "S = [\\xff]", "S = [\\x00]")
	check(t, "bytes 0 and 255", g, "\x00\xff", list(g, "3: 0 1", "0: 0 1 2", "2: 1 2"), ".r.")
}

// What is rejected beside what isn't: over other places, of other sorts; all alternatives of a node are.
func TestRejectBeside(t *testing.T) {
	g := read("S A B", "S = A B", "A = [ab]", "B = A", "A = [a]", "B = [a]", "A = [a] : reject")
	check(t, "other places", g, "ab", list(g, "1: 0 1", "3: 0 1", "1: 1 2"), "rr.")
	check(t, "the same text at another place", g, "aba", list(g, "1: 0 1", "1: 1 2", "1: 2 3"), "r.r")
	check(t, "other sorts", g, "aa", list(g, "0: 0 1 2", "1: 0 1", "2: 1 2", "4: 1 2"), "drd.")
	check(t, "what lies over other places of the same sort", g, "aa", list(g, "3: 0 1", "3: 1 2", "4: 0 1", "4: 1 2"), "rr..")
	g = read("S A", "S = A", "S = S S", "A = [a]", "S = [a] [a] : reject")
	checkWays(t, "twice two", g, "aaa", "0: 0 1, 1: 0 1 2, 1: 0 1 3, 1: 0 2 3, 0: 1 2, 1: 1 2 3, 0: 2 3, 2: 0 1, 2: 1 2, 2: 2 3", ".rdd.r....")
	checkWays(t, "twice twice two", g, "aaaa",
		"0: 0 1, 1: 0 1 2, 1: 0 1 3, 1: 0 2 3, 1: 0 1 4, 1: 0 2 4, 1: 0 3 4, 0: 1 2, 1: 1 2 3, 1: 1 2 4, 1: 1 3 4, 0: 2 3, 1: 2 3 4, 0: 3 4, 2: 0 1, 2: 1 2, 2: 2 3, 2: 3 4",
		".rddddd.rdd.r.....")
}

// What may not follow: of the node's sort or another one, a byte of Not or another one, none.
func TestFollow(t *testing.T) {
	base := []string{"S = A B", "A = [a]", "B = [b]", "A =", "A = [a] [b]"}
	with := func(more ...string) api.Grammar { return read("S A B", append(base, more...)...) }
	one := func(what, want string, more ...string) {
		t.Helper()
		g := with(more...)
		check(t, what, g, "ab", list(g, "0: 0 1 2", "1: 0 1", "2: 1 2"), want)
	}
	one("none", "...")
	one("of its sort", "df.", "follow A [b]")
	one("of its sort, all bytes", "df.", "follow A [^]")
	one("of its sort, another byte", "...", "follow A [a]")
	one("of its sort, all other bytes", "...", "follow A [^b]")
	one("of another sort", "...", "follow B [b]")
	one("of the sort that it is in", "...", "follow S [b]")
	one("of another sort, behind it", "df.", "follow B [^]", "follow A [b]")
	one("of another sort, ahead of it", "df.", "follow A [b]", "follow B [a]")
	one("at the end of the text", "...", "follow B [^]", "follow S [^]")

	g := with("follow A [b]")
	check(t, "at the end of a longer text", g, "abb", list(g, "0: 0 1 2", "0: 0 2 3", "1: 0 1", "4: 0 1 2", "2: 1 2", "2: 2 3"), "ddff..")
	check(t, "all alternatives of a node", with("follow A [b]", "A = [a] : prefer"), "ab", list(with("A = [a]"), "1: 0 1", "5: 0 1"), "ff")
	check(t, "nodes of one sort with other ends", g, "ab", list(g, "3: 0", "1: 0 1", "4: 0 1 2", "3: 1", "3: 2"), ".f.f.")
	check(t, "an empty node, followed", g, "b", list(g, "0: 0 0 1", "3: 0", "2: 0 1"), "df.")
	check(t, "an empty node, followed by another byte", g, "a", list(g, "3: 0", "1: 0 1"), "..")
	check(t, "an empty node at the text's end", g, "b", list(g, "3: 1"), ".")
	check(t, "an empty node of the empty text", g, "", list(g, "3: 0"), ".")
	check(t, "the byte just ahead of the end does not count", with("follow A [a]"), "ab", list(g, "1: 0 1"), ".")
	g = read("S", "S = [^]", "follow S [\\x00\\xff]")
	check(t, "bytes 0 and 255", g, "ab\x00c\xffd\x01\xfe", list(g, "0: 0 1", "0: 1 2", "0: 2 3", "0: 3 4", "0: 4 5", "0: 5 6", "0: 6 7", "0: 7 8"), ".f.f....")
}

// What goes by several steps goes by the first of them.
func TestFirstStep(t *testing.T) {
	g := read("S A", "S = A", "A = [a]", "A = S", "A = [a] : avoid", "A = [a] : prefer", "A = [a] : reject", "follow A [b]")
	all := list(g, "0: 0 1", "1: 0 1", "2: 0 1", "3: 0 1", "4: 0 1")
	check(t, "rejected and followed, dead", g, "ab", all, "drrrr")
	check(t, "rejected and not followed", g, "aa", all, "drrrr")
	g.Prods = g.Prods[:5]
	check(t, "followed", g, "ab", all, "dffff")
	check(t, "neither", g, "aa", all, ".ppp.")
	check(t, "dead and less preferred", g, "aa", list(g, "2: 0 1", "4: 0 1"), "d.")
	check(t, "dead and avoided", g, "aa", list(g, "1: 0 1", "2: 0 1", "3: 0 1"), ".da")
	g.Forbid = []api.Forbid{{Parent: 0, At: 1, Child: 4}}
	check(t, "what is preferred is forbidden at one place", g, "aa", all, ".ppp.")
}

// What is alive only through what went goes, too: through levels, round circles.
func TestDead(t *testing.T) {
	lines := []string{"S = A", "A = B", "B = C", "C = [a]", "C = D", "D = [a]", "B = S"}
	level := []string{"0: 0 1", "1: 0 1", "2: 0 1", "3: 0 1"}
	with := func(more ...string) api.Grammar { return read("S A B C D", append(lines, more...)...) }
	g := with()
	check(t, "levels", g, "ab", list(g, level...), "....")
	check(t, "levels, the last one rejected", with("C = [a] : reject"), "ab", list(g, level...), "dddr")
	check(t, "levels, the last one followed", with("follow C [b]"), "ab", list(g, level...), "dddf")
	check(t, "levels, the middle one rejected", with("B = [a] : reject"), "ab", list(g, level...), "ddr.")
	check(t, "levels, the first one followed", with("follow S [b]"), "ab", list(g, level...), "f...")
	check(t, "levels, two of them gone", with("follow A [b]", "C = [a] : reject"), "ab", list(g, level...), "dfdr")
	circle := list(g, "0: 0 1", "1: 0 1", "2: 0 1", "6: 0 1", "3: 0 1")
	check(t, "a circle with a way out", g, "ab", circle, ".....")
	check(t, "a circle whose way out is rejected", with("C = [a] : reject"), "ab", circle, "ddddr")
	check(t, "a circle whose way out is followed", with("follow C [b]"), "ab", circle, "ddddf")
	check(t, "a circle that is cut by what is followed", with("follow S [b]"), "ab", circle, "f..d.")
	other := list(g, "0: 0 1", "1: 0 1", "2: 0 1", "3: 0 1", "4: 0 1", "5: 0 1")
	check(t, "another way", with("D = [a] : reject"), "ab", other, "....dr")
	g = read("S A B", "S = A B", "A = [a]", "B = [b]", "S = B", "B = A [b]", "A = [a] : reject")
	check(t, "one of two kids is rejected", g, "ab", list(g, "0: 0 1 2", "3: 0 2", "1: 0 1", "4: 0 1 2", "2: 1 2"), "ddrd.")
	check(t, "a kid with another way", g, "ab", list(g, "3: 1 2", "2: 1 2"), "..")
}

// What Forbid forbids.
func TestForbid(t *testing.T) {
	g := read("E", "E = E [+] E", "E = [1]", "forbid 0 3 0")
	ways := "1: 0 1, 0: 0 1 2 3, 0: 0 1 2 5, 0: 0 3 4 5, 1: 2 3, 0: 2 3 4 5, 1: 4 5"
	checkWays(t, "to the left", g, "1+1+1", ways, "..d....")
	g.Forbid[0].At = 1
	checkWays(t, "to the right", g, "1+1+1", ways, "...d...")
	g.Forbid = append(g.Forbid, api.Forbid{Parent: 0, At: 3, Child: 0})
	checkWays(t, "to neither side", g, "1+1+1", ways, "..dd...")
	g.Forbid[1].Child = 1
	checkWays(t, "not at the end", g, "1+1+1", ways, ".ddd.d.")
	g.Forbid = nil
	checkWays(t, "to both sides", g, "1+1+1", ways, ".......")

	g = read("S A", "S = A", "A = [a] : prefer", "A = [a]", "forbid 0 1 1")
	all := list(g, "0: 0 1", "1: 0 1", "2: 0 1")
	check(t, "what is left behind what is preferred may not stand", g, "a", all, "..p")
	g.Forbid[0].Child = 2
	check(t, "what is preferred may stand", g, "a", all, "..p")
	g.Forbid = append(g.Forbid, api.Forbid{Parent: 0, At: 1, Child: 1})
	check(t, "none may stand", g, "a", all, "d.p")
}

// Prefer: one of a node, several, all, none; what is preferred and gone.
func TestPrefer(t *testing.T) {
	g := read("S A", "S = [a] : prefer", "S = [a]", "S = [a]", "S = [a] : prefer", "S = A : prefer", "A = [a]", "A = A", "S = [a] [a] : prefer", "S = A A")
	node := func(what, want string, lines ...string) {
		t.Helper()
		check(t, what, g, "aa", list(g, lines...), want)
	}
	node("alone", ".", "0: 0 1")
	node("none", "..", "1: 0 1", "2: 0 1")
	node("one, ahead", ".pp", "0: 0 1", "1: 0 1", "2: 0 1")
	node("one, behind", "pp.", "1: 0 1", "2: 0 1", "3: 0 1")
	node("several", ".pp.", "0: 0 1", "1: 0 1", "2: 0 1", "3: 0 1")
	node("all", "..", "0: 0 1", "3: 0 1")
	node("one that is dead", "..d", "1: 0 1", "2: 0 1", "4: 0 1")
	node("one that is dead in a circle", "..dd", "1: 0 1", "2: 0 1", "4: 0 1", "6: 0 1")
	node("one that is dead, and one that isn't", "p.d", "1: 0 1", "3: 0 1", "4: 0 1")
	node("one that is alive by another node", "pp..", "1: 0 1", "2: 0 1", "4: 0 1", "5: 0 1")
	node("over other places", ".p..", "0: 0 1", "1: 0 1", "1: 1 2", "2: 1 2")
	node("over longer ones", "...p..", "1: 0 1", "2: 0 1", "7: 0 1 2", "8: 0 1 2", "5: 0 1", "5: 1 2")
	g = read("S A", "S = [a] : prefer", "S = [a]", "A = [a]", "A = [a] : prefer")
	node("of another sort", ".p..", "0: 0 1", "1: 0 1", "2: 0 1", "2: 1 2")
	node("of both sorts", ".pp.", "0: 0 1", "1: 0 1", "2: 0 1", "3: 0 1")
	g = read("S", "S = [a] : prefer", "S = [a]", "S = [a] : reject")
	node("rejected", "rr", "0: 0 1", "1: 0 1")
	g = read("S", "S = [a] : prefer", "S = [a]", "follow S [a]")
	node("followed, and the same not followed", "ff.p", "0: 0 1", "1: 0 1", "0: 1 2", "1: 1 2")
	g = read("S A", "S = A : prefer", "S = [a]", "A = [a]", "A = [a] : reject")
	node("dead by what is rejected", "d.r", "0: 0 1", "1: 0 1", "2: 0 1")
	g = read("S A", "S = A : prefer", "S = [a]", "A = [a]", "follow A [a]")
	node("dead by what is followed", "d.f", "0: 0 1", "1: 0 1", "2: 0 1")
	g = read("S A", "S = A : prefer", "S = [a]", "A = [a]", "forbid 0 1 2")
	node("dead by what is forbidden", "d..", "0: 0 1", "1: 0 1", "2: 0 1")
	g = read("S A", "S = A A : prefer", "S = A [a]", "A = [a]", "A =", "A = [a] [a]", "S = A")
	node("several cuts of one production", "..dpp....", "0: 0 0 2", "0: 0 1 2", "0: 0 2 2", "1: 0 1 2", "5: 0 2", "3: 0", "2: 0 1", "4: 0 1 2", "2: 1 2")
}

// Avoid: one of a node, several, all; what is not avoided and gone.
func TestAvoid(t *testing.T) {
	g := read("S A", "S = [a] : avoid", "S = [a]", "S = [a]", "S = [a] : avoid", "S = A", "A = [a]", "A = A")
	node := func(what, want string, lines ...string) {
		t.Helper()
		check(t, what, g, "aa", list(g, lines...), want)
	}
	node("alone", ".", "0: 0 1")
	node("none", "..", "1: 0 1", "2: 0 1")
	node("one, ahead", "a..", "0: 0 1", "1: 0 1", "2: 0 1")
	node("one, behind", "..a", "1: 0 1", "2: 0 1", "3: 0 1")
	node("several", "a..a", "0: 0 1", "1: 0 1", "2: 0 1", "3: 0 1")
	node("all", "..", "0: 0 1", "3: 0 1")
	node("all but one that is dead", "..d", "0: 0 1", "3: 0 1", "4: 0 1")
	node("all but one that is dead in a circle", "..dd", "0: 0 1", "3: 0 1", "4: 0 1", "6: 0 1")
	node("all but one that is alive by another node", "aa..", "0: 0 1", "3: 0 1", "4: 0 1", "5: 0 1")
	node("over other places", "a...", "0: 0 1", "1: 0 1", "0: 1 2", "3: 1 2")
	g = read("S A", "S = [a] : avoid", "S = [a]", "A = [a]", "A = [a] : avoid")
	node("of another sort", "..a", "0: 0 1", "2: 0 1", "3: 0 1")
	node("of both sorts", "a..a", "0: 0 1", "1: 0 1", "2: 0 1", "3: 0 1")
	g = read("S", "S = [a] : avoid", "S = [a]", "S = [a] : reject")
	node("rejected", "rr", "0: 0 1", "1: 0 1")
	g = read("S", "S = [a] : avoid", "S = [a]", "follow S [a]")
	node("followed, and the same not followed", "ffa.", "0: 0 1", "1: 0 1", "0: 1 2", "1: 1 2")
	g = read("S A", "S = [a] : avoid", "S = A", "A = [a]", "A = [a] : reject")
	node("all but what is dead by what is rejected", ".dr", "0: 0 1", "1: 0 1", "2: 0 1")
	g = read("S A", "S = [a] : avoid", "S = A", "A = [a]", "follow A [a]")
	node("all but what is dead by what is followed", ".df", "0: 0 1", "1: 0 1", "2: 0 1")
}

// Prefer and Avoid at several productions of one node.
func TestPreferAndAvoid(t *testing.T) {
	g := read("S A", "S = [a]", "S = [a] : prefer", "S = [a] : avoid", "S = [a] : prefer", "S = [a] : avoid", "S = A : prefer", "S = A")
	node := func(what, want string, lines ...string) {
		t.Helper()
		check(t, what, g, "a", list(g, lines...), want)
	}
	node("one of each", "p.p", "0: 0 1", "1: 0 1", "2: 0 1")
	node("two of each", "p.p.p", "0: 0 1", "1: 0 1", "2: 0 1", "3: 0 1", "4: 0 1")
	node("no other", ".p", "1: 0 1", "2: 0 1")
	node("the preferred one is dead", ".ad", "0: 0 1", "2: 0 1", "5: 0 1")
	node("the preferred one is dead, all others are avoided", "..d", "2: 0 1", "4: 0 1", "5: 0 1")
	node("all but what is avoided are dead", "..dd", "2: 0 1", "4: 0 1", "5: 0 1", "6: 0 1")
}

// What is alive is asked ahead of what is preferred, and not once more behind it: what is made of what went by these steps alone stays, though it has no tree any more.
func TestAliveAheadOfPreferred(t *testing.T) {
	g := read("S A B", "S = A", "A = B : prefer", "A = [a]", "B = [a]", "B = [a] : reject")
	all := list(g, "0: 0 1", "1: 0 1", "2: 0 1", "3: 0 1")
	check(t, "what is preferred is dead", g, "a", all, ".d.r")
	g = read("S A", "S = A", "A = [a] : prefer", "A = [a]", "forbid 0 1 1")
	all = list(g, "0: 0 1", "1: 0 1", "2: 0 1")
	check(t, "alive by what is less preferred", g, "a", all, "..p")
	if n := treesLeft(t, g, "a"); n != 0 {
		t.Errorf("P12.1: alive by what is less preferred: %d trees", n)
	}
	g = read("S A", "S = A", "A = [a]", "A = [a] : avoid", "forbid 0 1 1", "S = S : prefer")
	all = list(g, "0: 0 1", "1: 0 1", "2: 0 1")
	check(t, "alive by what is avoided", g, "a", all, "..a")
	g = read("S", "S = S : prefer", "S = [a]")
	checkWays(t, "a circle is preferred to its way out", g, "a", "0: 0 1, 1: 0 1", ".p")
	if n := treesLeft(t, g, "a"); n != 0 {
		t.Errorf("P12.1: a circle is preferred to its way out: %d trees", n)
	}
	g = read("S", "S = S", "S = [a] : avoid")
	checkWays(t, "a circle's way out is avoided", g, "a", "0: 0 1, 1: 0 1", ".a")
	g = read("S A", "S = A : prefer", "S = [a]", "A = [a] : prefer", "A = [a]", "forbid 0 1 2")
	all = list(g, "0: 0 1", "1: 0 1", "2: 0 1", "3: 0 1")
	check(t, "preferred, though it was alive only ahead of it", g, "a", all, ".p.p")
}

// Sorts and texts of the same shapes in many productions.
func TestFullGrammar(t *testing.T) {
	g := api.Grammar{Sorts: []string{"S", "A"}}
	for i := range api.MaxProds - 2 {
		p := api.Prod{Left: i % 2, Role: api.RoleReject, From: -1}
		for range api.MaxRight {
			p.Right = append(p.Right, set("b"))
		}
		p.Right[i/2%api.MaxRight] = set("a")
		g.Prods = append(g.Prods, p)
	}
	n := len(g.Prods)
	long := api.Prod{Left: 1, From: -1}
	for range api.MaxRight {
		long.Right = append(long.Right, api.Sym{Set: sets.All()})
	}
	g.Prods = append(g.Prods, long, api.Prod{Left: 0, Right: []api.Sym{sort(1)}, From: -1})
	text := ""
	for range api.MaxRight {
		text += "b"
	}
	at := func(from int) api.Alt {
		a := api.Alt{Sort: 1, From: from, Until: from + api.MaxRight, Prod: n}
		for i := range api.MaxRight {
			a.Cuts = append(a.Cuts, from+i+1)
		}
		return a
	}
	one := api.Alt{Sort: 0, From: 1, Until: 1 + api.MaxRight, Prod: n + 1, Cuts: []int{1 + api.MaxRight}}
	check(t, "no a", g, "bb"+text, []api.Alt{one, at(0), at(1), at(2)}, "....")
	check(t, "an a ahead of it", g, "ab"+text, []api.Alt{one, at(0), at(1), at(2)}, ".r..")
	check(t, "an a behind it", g, text+"ba", []api.Alt{one, at(0), at(1), at(2)}, "...r")
	check(t, "an a at its begin", g, "ba"+text, []api.Alt{one, at(0), at(1), at(2)}, "rrr.")
	check(t, "two", g, "baa"+text[1:], []api.Alt{one, at(0), at(1), at(2)}, "...r")
}
