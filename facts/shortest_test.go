package facts_test

import (
	"math"
	"slices"
	"strconv"
	"strings"
	"testing"

	"rosetta/api"
	"rosetta/facts"
)

func TestShortest(t *testing.T) {
	checkAll(t, "one production of two", read("S A", "S = [a] [b] [c]", "S = A A", "A = [a]"), want{"Shortest": "2 1"})
	checkAll(t, "one production of two, the other way", read("S A", "S = A A", "S = [a] [b] [c]", "A = [a]"), want{"Shortest": "2 1"})
	checkAll(t, "a way round is shorter", read("S A B", "S = [s] [s] [s]", "S = A", "A = [a] [a] [a]", "A = B", "B = [b] [b]"), want{"Shortest": "2 2 2", "Sample": "S bb, A bb, B bb"})
	checkAll(t, "found the last one first", read("S A B", "B = [b] [b]", "A = B", "A = [a] [a] [a]", "S = A", "S = [s] [s] [s]"), want{"Shortest": "2 2 2"})
	checkAll(t, "shorter later", read("S A B C", "S = A A A", "A = [a] [a] [a]", "A = B B", "B = [b] [b]", "B = C", "C = [c]", "C ="), want{"Shortest": "0 0 0 0", "Sample": "S, A, B, C"})
	checkAll(t, "in itself", read("S", "S = [l] S [r]", "S = S S", "S = [s]"), want{"Shortest": "1"})
	checkAll(t, "no text", read("S D", "S = D", "S = [s] D", "D = D"), want{"Shortest": "-1 -1", "Sample": "S dead, D dead"})
	checkAll(t, "a shorter one that has no text", read("S D", "S = D", "S = [s] [s]", "D = D D"), want{"Shortest": "2 -1", "Sample": "S ss, D dead"})
	checkAll(t, "a shorter one that is rejected", read("S", "S = [s] [s]", "S = [r] : reject", "S = : reject"), want{"Shortest": "2", "Sample": "S ss"})
	checkAll(t, "not reached", read("S A", "S = [s]", "A = [a] [a]"), want{"Shortest": "1 2", "Sample": "S s, A aa"})
	checkAll(t, "the most symbols", read("S", "S = "+strings.Repeat("[s] ", 30)), want{"Shortest": "30", "Sample": "S " + strings.Repeat("s", 30)})
}

func TestSample(t *testing.T) {
	checkAll(t, "the shorter one, though it is greater", read("S", "S = [a] [a]", "S = [z]"), want{"Sample": "S z"})
	checkAll(t, "the least byte of a set", read("S", "S = [x-z] [m] [d-f]"), want{"Sample": "S xmd"})
	checkAll(t, "of two productions", read("S", "S = [b] [a]", "S = [a] [b]"), want{"Sample": "S ab"})
	checkAll(t, "of two productions, the least first", read("S", "S = [a] [b]", "S = [b] [a]"), want{"Sample": "S ab"})
	checkAll(t, "at the last byte", read("S", "S = [a] [a] [c]", "S = [a] [a] [b]"), want{"Sample": "S aab"})
	checkAll(t, "bytes, not signs", read("S", `S = [a] [\xff]`, "S = [a] [~]", `S = [\x80] [\x00]`), want{"Sample": "S a~"})
	checkAll(t, "the least one begins with the longer part", read("S A B C D", "S = C D", "S = A B", "A = [a] [b]", "B = [c]", "C = [a]", "D = [b] [d]"), want{"Sample": "S abc, A ab, B c, C a, D bd"})
	checkAll(t, "the least one begins with the shorter part", read("S A B C D", "S = A B", "S = C D", "A = [a] [b]", "B = [d]", "C = [a]", "D = [b] [c]"), want{"Sample": "S abc, A ab, B d, C a, D bc"})
	checkAll(t, "a part less alone, more together", read("S A B C D", "S = A B", "S = C D", "A = [a]", "B = [z] [z]", "C = [a] [b]", "D = [z]"), want{"Sample": "S abz, A a, B zz, C ab, D z"})
	checkAll(t, "parts that are least alone are so together", read("S A B", "S = A B", "A = [b] [a]", "A = [a] [b]", "B = [c]", "B = [b]"), want{"Sample": "S abb, A ab, B b"})
	checkAll(t, "a part twice", read("S A", "S = A A [x] A", "A = [b]", "A = [a]"), want{"Sample": "S aaxa, A a"})
	checkAll(t, "a part whose least text is longer", read("S A", "S = A A", "A = [b]", "A = [a] [a]"), want{"Sample": "S bb, A b"})
	checkAll(t, "shortest empty", read("S A", "S = A A", "S = [a]", "A =", "A = [a]"), want{"Sample": "S, A"})
	checkAll(t, "parts that are nothing", read("S A B", "S = A B A", "S = [c]", "A =", "A = [a]", "B = [b]"), want{"Sample": "S b, A, B b"})
	checkAll(t, "parts that are nothing around what is long", read("S A B", "S = [b] A B A [b]", "A = A A", "A =", "B = [b] A [b] A A"), want{"Sample": "S bbbb, A, B bb"})
	checkAll(t, "itself alone", read("S A", "S = S", "S = A", "S = [b]", "A = S", "A = [a]"), want{"Sample": "S a, A a"})
	checkAll(t, "in a ring, the least one far round", read("S A B C", "S = A", "A = B", "B = C", "C = S", "S = [d]", "A = [c]", "B = [b]", "C = [a]"), want{"Sample": "S a, A a, B a, C a"})
	checkAll(t, "in a ring, the other way", read("S A B C", "S = C", "C = B", "B = A", "A = S", "S = [d]", "A = [c]", "B = [b]", "C = [a]"), want{"Sample": "S a, A a, B a, C a"})
	checkAll(t, "in a ring with what is nothing", read("S A E", "S = E A E", "A = E S", "S = [b] [b]", "A = [a] [c]", "E = [a]", "E ="), want{"Sample": "S ac, A ac, E"})
	checkAll(t, "a production whose part has shorter texts than it asks for", read("S A", "S = A", "S = [b] [b]", "A = [a] [a]", "A = [c]"), want{"Sample": "S c, A c"})
	checkAll(t, "a part beside that has no text", read("S D", "S = [a] D", "S = [b] [c]", "D = D"), want{"Sample": "S bc, D dead"})
	checkAll(t, "two productions of one text", read("S A B", "S = A", "S = B", "S = [a] [b]", "A = [a] B", "B = [b]", "S = A"), want{"Sample": "S b, A ab, B b"})
	checkAll(t, "twice in one another", read("S A B", "S = A B", "S = B A", "A = [b]", "B = [b] [a]"), want{"Sample": "S bab, A b, B ba"})
	checkAll(t, "what is asked is least, not what it stands in", read("S A B", "S = A [z]", "S = B [a]", "A = [a]", "B = [a]"), want{"Sample": "S aa, A a, B a"})
}

// Sorts that are none.
func TestSampleRange(t *testing.T) {
	dead := read("S", "S = S")
	for _, g := range []api.Grammar{example(), dead} {
		for _, n := range []int{-1, len(g.Sorts), -2, len(g.Sorts) + 1, api.MaxProds, api.MaxProds + 1, 1 << 32, -1 << 32, math.MaxInt, math.MinInt} {
			if s, e := facts.Sample(g, n); s != "" || e != api.ErrRange {
				t.Errorf("P8.3: Sample of %d: %q %v", n, s, e)
			}
		}
	}
	if s, e := facts.Sample(example(), 2); s != "" || e != api.ErrDead {
		t.Errorf("P8.3: Sample of the last sort: %q %v", s, e)
	}
	if s, e := facts.Sample(dead, 0); s != "" || e != api.ErrDead {
		t.Errorf("P8.3: Sample of the only sort: %q %v", s, e)
	}
}

// doubling tells sorts T0 to T(n-1), of which each is twice the next one, and the last one a text.
func doubling(n int, last ...api.Sym) api.Grammar {
	var g api.Grammar
	for i := range n {
		g.Sorts = append(g.Sorts, "T"+strconv.Itoa(i))
		g.Prods = append(g.Prods, api.Prod{Left: i, Right: []api.Sym{sort(i + 1), sort(i + 1)}, From: -1})
	}
	g.Prods[n-1].Right = last
	return g
}

// withProd tells a grammar and a production more, of a sort more.
func withProd(g api.Grammar, name string, right ...api.Sym) api.Grammar {
	g.Prods = append(slices.Clone(g.Prods), api.Prod{Left: len(g.Sorts), Right: right, From: -1})
	g.Sorts = append(slices.Clone(g.Sorts), name)
	return g
}

// checkLength asks how long a sort's shortest texts are, and what its sample is: so many bytes of a text, again and again; or an error.
func checkLength(t *testing.T, what string, g api.Grammar, n, length int, again string, want api.Errno) {
	t.Helper()
	l, e := facts.Shortest(g)
	if e != api.OK || l[n] != length {
		t.Errorf("P8.3: Shortest, %s: %v %v, want %d", what, l, e, length)
	}
	text := ""
	if want == api.OK {
		text = strings.Repeat(again, length/max(len(again), 1)+1)[:length]
	}
	if s, e := facts.Sample(g, n); s != text || e != want {
		t.Errorf("P8.3: Sample, %s: %d bytes %s %v, want %d bytes, %v", what, len(s), brief(s), e, length, want)
	}
}

// A least text of MaxText bytes, of one less and of one more.
func TestMaxText(t *testing.T) {
	const most = api.MaxText
	a, b := set("a"), set("b")
	g := doubling(21, a) // T0 has 2^20 bytes
	checkLength(t, "MaxText", g, 0, most, "a", api.OK)
	checkLength(t, "half of it", g, 1, most/2, "a", api.OK)
	checkLength(t, "one more, behind", withProd(g, "S", sort(0), b), 21, most+1, "", api.ErrLong)
	checkLength(t, "one more, ahead", withProd(g, "S", b, sort(0)), 21, most+1, "", api.ErrLong)
	checkLength(t, "nothing more", withProd(withProd(g, "N"), "S", sort(21), sort(0), sort(21)), 22, most, "a", api.OK)
	checkLength(t, "twice", withProd(g, "S", sort(0), sort(0)), 21, most+1, "", api.ErrLong)
	checkLength(t, "30 times", withProd(g, "S", slices.Repeat([]api.Sym{sort(0)}, 30)...), 21, most+1, "", api.ErrLong)
	checkLength(t, "too long in too long", withProd(withProd(g, "T", sort(0), b), "S", sort(21)), 22, most+1, "", api.ErrLong)
	// 2^20 - 1 is the sum of all lesser powers; and one more than that is MaxText.
	var row []api.Sym
	for n := 1; n <= 20; n++ {
		row = append(row, sort(n))
	}
	checkLength(t, "one less", withProd(g, "S", row...), 21, most-1, "a", api.OK)
	checkLength(t, "just MaxText of unlike parts", withProd(g, "S", append(slices.Clone(row), a)...), 21, most, "a", api.OK)
	checkLength(t, "one more of unlike parts", withProd(g, "S", append(slices.Clone(row), a, a)...), 21, most+1, "", api.ErrLong)
	// A too long production beside one that is not, whichever is first.
	for _, turned := range []bool{false, true} {
		g := withProd(g, "S", append(slices.Clone(row), a)...)
		g.Prods = append(g.Prods, api.Prod{Left: 21, Right: []api.Sym{sort(0), a}})
		if turned {
			slices.Reverse(g.Prods)
		}
		checkLength(t, "the shorter one goes", g, 21, most, "a", api.OK)
	}
	// The greater sorts are no hindrance to lesser ones, and the other way.
	checkLength(t, "beside what is too long", withProd(doubling(30, a), "S", a, b), 30, 2, "ab", api.OK)
	checkLength(t, "twenty times doubled among more", doubling(41, a), 20, most, "a", api.OK)
	checkLength(t, "one time more", doubling(41, a), 19, most+1, "", api.ErrLong)
	checkLength(t, "a text of three bytes", doubling(19, set("cx"), a, b), 0, 3<<18, "cab", api.OK)
}

// Texts longer than any number can tell.
func TestHuge(t *testing.T) {
	const most = api.MaxText
	for _, n := range []int{22, 23, 31, 32, 33, 63, 64, 65, 66, 100, 999, 1000} {
		checkLength(t, "2^"+strconv.Itoa(n-1), doubling(n, set("a")), 0, most+1, "", api.ErrLong)
		checkLength(t, "at the end of 2^"+strconv.Itoa(n-1), doubling(n, set("a")), n-1, 1, "a", api.OK)
		checkLength(t, "of no text", doubling(n, sort(n-1)), 0, -1, "", api.ErrDead)
		checkLength(t, "nothing so often", doubling(n), 0, 0, "", api.OK)
	}
	g := doubling(1000, set("a"))
	for n := range 1000 {
		p := &g.Prods[n]
		if n < 999 {
			p.Right = slices.Repeat([]api.Sym{sort(n + 1)}, api.MaxRight)
		}
	}
	checkLength(t, "30^999", g, 0, most+1, "", api.ErrLong)
	checkLength(t, "30^4", g, 995, 810_000, "a", api.OK)
	checkLength(t, "30^5", g, 994, most+1, "", api.ErrLong)
	slices.Reverse(g.Prods)
	checkLength(t, "30^999, the last first", g, 0, most+1, "", api.ErrLong)
	// What has no text is that beside what is too long, too; and what is too long is productive.
	dead := withProd(withProd(doubling(70, set("a")), "D", sort(70)), "S", sort(0), sort(70))
	checkLength(t, "too long and without a text", dead, 71, -1, "", api.ErrDead)
	long := doubling(70, set("ab"))
	a := all(t, long)
	if slices.Contains(a.Productive, false) || slices.Contains(a.Nullable, true) || slices.Contains(a.Circular, true) {
		t.Errorf("P8.1: of what is too long: %+v", a)
	}
	for n := range 70 {
		follows := set("ab").Set
		if n == 0 {
			follows = api.Set{}
		}
		if a.First[n] != set("ab").Set || a.Follow[n] != follows || !a.Ends[n] {
			t.Errorf("P8.2: of what is too long: %v %v %v", a.First[n], a.Follow[n], a.Ends[n])
		}
	}
	// A short text of a sort that has endless ones.
	g = doubling(70, set("a"))
	g.Prods = append(g.Prods, api.Prod{Left: 3, Right: []api.Sym{set("b")}})
	checkLength(t, "a sort in which one is short", g, 0, 8, "b", api.OK)
}

// Long texts that differ late, of parts that are cut unlike.
func TestLongSamples(t *testing.T) {
	a, b, c := set("a"), set("b"), set("c")
	for _, doublings := range []int{1, 2, 11, 12, 13, 14, 18} {
		base := doubling(doublings, a) // T0 has size bytes
		size := 1 << (doublings - 1)
		k := len(base.Sorts)
		as := func(n int) string { return strings.Repeat("a", n) }
		check := func(what string, text string, right ...[]api.Sym) {
			t.Helper()
			for _, turned := range []bool{false, true} {
				g := withProd(base, "S", right[0]...)
				for _, r := range right[1:] {
					g.Prods = append(g.Prods, api.Prod{Left: k, Right: r})
				}
				if turned {
					slices.Reverse(g.Prods)
				}
				if s, e := facts.Sample(g, k); s != text || e != api.OK {
					t.Errorf("P8.3: Sample, %s, %d bytes: %s %v", what, len(text), brief(s), e)
				}
			}
		}
		x := sort(0)
		check("differing at the end", as(size)+"b", []api.Sym{x, c}, []api.Sym{x, b})
		check("differing at the begin", "b"+as(size), []api.Sym{c, x}, []api.Sym{b, x})
		check("differing within", as(size)+"b"+as(size), []api.Sym{x, c, x}, []api.Sym{x, b, x})
		check("cut unlike", as(2*size+1)+"b", []api.Sym{a, x, x, c}, []api.Sym{x, x, a, b}, []api.Sym{x, a, x, c}, []api.Sym{x, b, x, a})
		check("the same, cut unlike", as(2*size+1), []api.Sym{a, x, x}, []api.Sym{x, x, a}, []api.Sym{x, a, x})
		check("a later b", as(2*size)+"b", []api.Sym{x, b, x}, []api.Sym{x, x, b}, []api.Sym{b, x, x})
	}
}

// Chains of long texts in one another, as many as may be.
func TestManyLongSamples(t *testing.T) {
	const last = 345
	g := doubling(20, set("a")) // T0 has 2^19 bytes
	for n, below := 20, 0; n <= last; n++ {
		g = withProd(g, "U"+strconv.Itoa(n), set("b"), sort(below), set("a"))
		for _, end := range []string{"c", "b"} {
			g.Prods = append(g.Prods, api.Prod{Left: n, Right: []api.Sym{set("a"), sort(below), set(end)}})
		}
		below = n
	}
	const more = last - 19
	text := strings.Repeat("a", 1<<19+more) + strings.Repeat("b", more)
	if s, e := facts.Sample(g, last); s != text || e != api.OK {
		t.Errorf("P8.3: Sample: %d bytes, %v", len(s), e)
	}
	slices.Reverse(g.Prods)
	if s, e := facts.Sample(g, last); s != text || e != api.OK {
		t.Errorf("P8.3: Sample, the last production first: %d bytes, %v", len(s), e)
	}
}
