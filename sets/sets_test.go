package sets_test

import (
	"iter"
	"math/rand"
	"slices"
	"testing"

	"rosetta/api"
	"rosetta/sets"
)

// The calls' signatures, as the chapter lists them.
var (
	_ func(...api.Range) (api.Set, api.Errno) = sets.Make
	_ func(...byte) api.Set                   = sets.Of
	_ func() api.Set                          = sets.All
	_ func(api.Set, byte) bool                = sets.Has
	_ func(...api.Set) api.Set                = sets.Union
	_ func(api.Set, api.Set) api.Set          = sets.Meet
	_ func(api.Set, api.Set) api.Set          = sets.Without
	_ func(api.Set) api.Set                   = sets.Not
	_ func(api.Set, api.Set) bool             = sets.Within
	_ func(api.Set) int                       = sets.Count
	_ func(api.Set) (byte, bool)              = sets.Least
	_ func(api.Set) []api.Range               = sets.Ranges
	_ func(api.Set) iter.Seq[byte]            = sets.Bytes
	_ func(...api.Set) []api.Set              = sets.Split
	_ func(api.Set) string                    = sets.Text
	_ func(string) (api.Set, api.Errno)       = sets.Read
)

// bools is a set told byte by byte: what the sets are held against.
type bools [256]bool

// set tells the words of it, as the chapter says which bit is which byte's.
func (m bools) set() api.Set {
	var s api.Set
	for b := range m {
		if m[b] {
			s[b/64] += uint64(1) << (b % 64)
		}
	}
	return s
}

func boolsOf(s api.Set) bools {
	var m bools
	for b := range m {
		m[b] = s[b/64]/(uint64(1)<<(b%64))%2 == 1
	}
	return m
}

// where tells the set of the bytes that f takes.
func where(f func(b int) bool) api.Set {
	var m bools
	for b := range m {
		m[b] = f(b)
	}
	return m.set()
}

// span tells the set of the bytes from one to another.
func span(from, to int) api.Set {
	return where(func(b int) bool { return from <= b && b <= to })
}

// count tells how many bytes a set has.
func count(s api.Set) int {
	n := 0
	for _, is := range boolsOf(s) {
		if is {
			n++
		}
	}
	return n
}

// samples tells sets at all edges, and some thrown by a die that always falls the same.
func samples() []api.Set {
	out := []api.Set{{}, span(0, 255), span(0, 127), span(0, 128), span(127, 255), span(128, 255), span(63, 64), span(62, 65), span(1, 254), span('a', 'z')}
	for _, b := range []int{0, 9, 10, 13, ' ', '-', '[', '\\', ']', '^', 'a', 63, 64, 126, 127, 128, 191, 192, 255} {
		out = append(out, span(b, b), where(func(c int) bool { return c != b }))
	}
	out = append(out, where(func(b int) bool { return b%2 == 0 }), where(func(b int) bool { return b%2 == 1 }), where(func(b int) bool { return b%2 == 0 || b == 77 }), where(func(b int) bool { return b%3 > 0 }))
	die := rand.New(rand.NewSource(2))
	for range 60 {
		likely := die.Intn(100)
		out = append(out, where(func(int) bool { return die.Intn(100) < likely }))
	}
	return out
}

func TestMake(t *testing.T) {
	for _, x := range []struct {
		ranges []api.Range
		want   api.Set
	}{
		{nil, api.Set{}},
		{[]api.Range{}, api.Set{}},
		{[]api.Range{{From: 'a', To: 'z'}}, span('a', 'z')},
		{[]api.Range{{From: 0, To: 255}}, span(0, 255)},
		{[]api.Range{{From: 0, To: 0}}, api.Set{1}}, // the chapter's bit of byte 0
		{[]api.Range{{From: 255, To: 255}}, api.Set{0, 0, 0, 1 << 63}},
		{[]api.Range{{From: 63, To: 64}}, api.Set{1 << 63, 1}},
		{[]api.Range{{From: 1, To: 3}, {From: 4, To: 6}}, span(1, 6)}, // they touch
		{[]api.Range{{From: 4, To: 9}, {From: 1, To: 5}}, span(1, 9)}, // they overlap
		{[]api.Range{{From: 1, To: 9}, {From: 3, To: 4}}, span(1, 9)}, // one in the other
		{[]api.Range{{From: 1, To: 2}, {From: 1, To: 2}}, span(1, 2)}, // twice
		{[]api.Range{{From: 200, To: 201}, {From: 5, To: 5}}, where(func(b int) bool { return b == 5 || b == 200 || b == 201 })}, // in no order
	} {
		given := slices.Clone(x.ranges)
		if s, e := sets.Make(x.ranges...); s != x.want || e != api.OK {
			t.Errorf("P2.1: Make(%v): %v %v, want %v", x.ranges, s, e, x.want)
		}
		if !slices.Equal(given, x.ranges) {
			t.Errorf("P2.1: Make changed %v to %v", given, x.ranges)
		}
	}
}

func TestMakeEachRange(t *testing.T) {
	for from := range 256 {
		for to := range 256 {
			r := api.Range{From: byte(from), To: byte(to)}
			want, err := span(from, to), api.OK
			if from > to {
				want, err = api.Set{}, api.ErrRange
			}
			if s, e := sets.Make(r); s != want || e != err {
				t.Fatalf("P2.1: Make(%v): %v %v, want %v %v", r, s, e, want, err)
			}
		}
	}
}

func TestMakeRefused(t *testing.T) {
	whole, bad := api.Range{From: 0, To: 255}, api.Range{From: 5, To: 3}
	for _, l := range [][]api.Range{{bad}, {whole, bad}, {bad, whole}, {whole, bad, whole}, {{From: 255, To: 0}}, {{From: 1, To: 0}}} {
		if s, e := sets.Make(l...); s != (api.Set{}) || e != api.ErrRange {
			t.Errorf("P2.1: Make(%v): %v %v, want ErrRange", l, s, e)
		}
	}
}

func TestOfAllHas(t *testing.T) {
	if s := sets.Of(); s != (api.Set{}) {
		t.Errorf("P2.1: Of(): %v", s)
	}
	if s, want := sets.Of('a', 0, 255, 'a', 64), where(func(b int) bool { return b == 'a' || b == 0 || b == 255 || b == 64 }); s != want {
		t.Errorf("P2.1: Of: %v, want %v", s, want)
	}
	if s := sets.All(); s != span(0, 255) {
		t.Errorf("P2.1: All: %v", s)
	}
	for b := range 256 {
		if s := sets.Of(byte(b)); s != span(b, b) {
			t.Errorf("P2.1: Of(%d): %v", b, s)
		}
	}
	for _, s := range samples() {
		for b, is := range boolsOf(s) {
			if sets.Has(s, byte(b)) != is {
				t.Fatalf("P2.1: Has(%v, %d): %v", s, b, !is)
			}
		}
	}
}

func TestUnion(t *testing.T) {
	if s := sets.Union(); s != (api.Set{}) {
		t.Errorf("P2.2: Union(): %v", s)
	}
	if s, want := sets.Union(span(1, 3), span(2, 5), api.Set{}, span(200, 201)), where(func(b int) bool { return 1 <= b && b <= 5 || b == 200 || b == 201 }); s != want {
		t.Errorf("P2.2: Union: %v, want %v", s, want)
	}
	l := samples()
	given := slices.Clone(l)
	if s := sets.Union(l...); s != span(0, 255) || !slices.Equal(l, given) {
		t.Errorf("P2.2: Union of all samples: %v", s)
	}
	for _, a := range l {
		if s := sets.Union(a); s != a {
			t.Errorf("P2.2: Union(%v): %v", a, s)
		}
	}
}

func TestTwoSets(t *testing.T) {
	l := samples()
	for _, a := range l {
		for _, b := range l {
			x, y := boolsOf(a), boolsOf(b)
			both := where(func(c int) bool { return x[c] && y[c] })
			some := where(func(c int) bool { return x[c] || y[c] })
			first := where(func(c int) bool { return x[c] && !y[c] })
			if s := sets.Meet(a, b); s != both {
				t.Fatalf("P2.2: Meet(%v, %v): %v, want %v", a, b, s, both)
			}
			if s := sets.Union(a, b); s != some {
				t.Fatalf("P2.2: Union(%v, %v): %v, want %v", a, b, s, some)
			}
			if s := sets.Without(a, b); s != first {
				t.Fatalf("P2.2: Without(%v, %v): %v, want %v", a, b, s, first)
			}
			if is := sets.Within(a, b); is != (count(first) == 0) {
				t.Fatalf("P2.2: Within(%v, %v): %v", a, b, is)
			}
			if sets.Without(a, b) != sets.Meet(a, sets.Not(b)) || sets.Not(sets.Union(a, b)) != sets.Meet(sets.Not(a), sets.Not(b)) {
				t.Fatalf("P2.6: %v, %v: Without, Not are not as they must be", a, b)
			}
		}
	}
}

func TestWithinEdges(t *testing.T) {
	for _, x := range []struct {
		a, b api.Set
		want bool
	}{
		{api.Set{}, api.Set{}, true},
		{api.Set{}, span(1, 2), true},
		{span(1, 2), api.Set{}, false},
		{span(1, 2), span(1, 2), true},
		{span(1, 2), span(1, 3), true},
		{span(1, 3), span(1, 2), false},
		{span(0, 255), span(0, 255), true},
		{span(0, 255), span(0, 254), false},
		{span(1, 2), span(3, 4), false},
	} {
		if is := sets.Within(x.a, x.b); is != x.want {
			t.Errorf("P2.2: Within(%v, %v): %v, want %v", x.a, x.b, is, x.want)
		}
	}
}

func TestNot(t *testing.T) {
	if sets.Not(api.Set{}) != span(0, 255) || sets.Not(span(0, 255)) != (api.Set{}) || sets.Not(span(64, 255)) != span(0, 63) {
		t.Error("P2.2: Not at the edges")
	}
	for _, s := range samples() {
		m := boolsOf(s)
		if n, want := sets.Not(s), where(func(b int) bool { return !m[b] }); n != want || sets.Not(n) != s {
			t.Errorf("P2.2: Not(%v): %v, want %v", s, n, want)
		}
	}
}

func TestCountLeastBytes(t *testing.T) {
	for _, s := range samples() {
		var all []byte
		for b, is := range boolsOf(s) {
			if is {
				all = append(all, byte(b))
			}
		}
		if n := sets.Count(s); n != len(all) {
			t.Errorf("P2.3: Count(%v): %d, want %d", s, n, len(all))
		}
		var least byte
		if len(all) > 0 {
			least = all[0]
		}
		if b, ok := sets.Least(s); b != least || ok != (len(all) > 0) {
			t.Errorf("P2.3: Least(%v): %d %v, want %d", s, b, ok, least)
		}
		if l := slices.Collect(sets.Bytes(s)); !slices.Equal(l, all) {
			t.Errorf("P2.3: Bytes(%v): %v, want %v", s, l, all)
		}
	}
}

func TestBytesLeftEarly(t *testing.T) {
	s := sets.Of(255, 0, 63, 64, 65, 191)
	all := []byte{0, 63, 64, 65, 191, 255}
	walk := sets.Bytes(s)
	for most := range len(all) + 1 {
		var got []byte
		for b := range walk {
			if got = append(got, b); len(got) >= most {
				break
			}
		}
		if want := all[:max(most, 1)]; !slices.Equal(got, want) {
			t.Errorf("P2.3: left behind %d: %v, want %v", most, got, want)
		}
		if again := slices.Collect(walk); !slices.Equal(again, all) {
			t.Errorf("P2.3: gone over again: %v, want %v", again, all)
		}
	}
	for a := range walk { // within itself, too
		if first := slices.Collect(walk)[0]; first > a {
			t.Errorf("P2.3: a walk within a walk begins with %d", first)
		}
	}
	for range sets.Bytes(api.Set{}) {
		t.Error("P2.3: a byte of nothing")
	}
}

func TestRanges(t *testing.T) {
	for _, x := range []struct {
		s    api.Set
		want []api.Range
	}{
		{api.Set{}, nil},
		{span(0, 255), []api.Range{{From: 0, To: 255}}},
		{sets.Of(1, 2, 3, 7), []api.Range{{From: 1, To: 3}, {From: 7, To: 7}}},
		{sets.Of(0, 255), []api.Range{{From: 0, To: 0}, {From: 255, To: 255}}}, // they don't touch
		{sets.Of(63, 64), []api.Range{{From: 63, To: 64}}},
		{sets.Of(1, 3, 5), []api.Range{{From: 1, To: 1}, {From: 3, To: 3}, {From: 5, To: 5}}},
		{span(254, 255), []api.Range{{From: 254, To: 255}}},
	} {
		if l := sets.Ranges(x.s); !slices.Equal(l, x.want) {
			t.Errorf("P2.3: Ranges(%v): %v, want %v", x.s, l, x.want)
		}
	}
}

func TestRangesAsLongAsCanBe(t *testing.T) {
	for _, s := range samples() {
		l := sets.Ranges(s)
		var m bools
		for i, r := range l {
			if r.From > r.To || i > 0 && int(r.From) < int(l[i-1].To)+2 {
				t.Fatalf("P2.3: Ranges(%v): %v at %d", s, l, i)
			}
			for b := int(r.From); b <= int(r.To); b++ {
				m[b] = true
			}
		}
		if m.set() != s {
			t.Fatalf("P2.3: Ranges(%v): %v", s, l)
		}
		if back, e := sets.Make(l...); back != s || e != api.OK {
			t.Fatalf("P2.6: Make(%v): %v %v, want %v", l, back, e, s)
		}
	}
}

// slowSplit puts two bytes in one part just if each set has both or neither.
func slowSplit(l []api.Set) []api.Set {
	var parts []api.Set
next:
	for b := range 256 {
		for i, part := range parts {
			first := slices.Index(members(part), true)
			if !slices.ContainsFunc(l, func(s api.Set) bool { m := boolsOf(s); return m[first] != m[b] }) {
				m := boolsOf(part)
				m[b] = true
				parts[i] = m.set()
				continue next
			}
		}
		parts = append(parts, span(b, b))
	}
	return parts
}

func members(s api.Set) []bool {
	m := boolsOf(s)
	return m[:]
}

func TestSplit(t *testing.T) {
	az, ac := span('a', 'z'), span('a', 'c')
	each := []api.Set{}
	for b := range 256 {
		each = append(each, span(b, b))
	}
	for _, x := range []struct{ l, want []api.Set }{
		{nil, []api.Set{span(0, 255)}},
		{[]api.Set{{}}, []api.Set{span(0, 255)}},
		{[]api.Set{span(0, 255)}, []api.Set{span(0, 255)}},
		{[]api.Set{az}, []api.Set{sets.Not(az), az}},
		{[]api.Set{sets.Not(az)}, []api.Set{sets.Not(az), az}},
		{[]api.Set{az, az, {}, sets.Not(az)}, []api.Set{sets.Not(az), az}},
		{[]api.Set{az, ac}, []api.Set{sets.Not(az), ac, sets.Without(az, ac)}},
		{[]api.Set{ac, az}, []api.Set{sets.Not(az), ac, sets.Without(az, ac)}},
		{[]api.Set{span(0, 9), span(5, 14)}, []api.Set{span(0, 4), span(5, 9), span(10, 14), span(15, 255)}},
		{[]api.Set{span(1, 255), sets.Of(3, 200)}, []api.Set{span(0, 0), sets.Without(span(1, 255), sets.Of(3, 200)), sets.Of(3, 200)}},
		{each, each},
	} {
		given := slices.Clone(x.l)
		if l := sets.Split(x.l...); !slices.Equal(l, x.want) {
			t.Errorf("P2.4: Split(%v): %v, want %v", x.l, l, x.want)
		}
		if !slices.Equal(given, x.l) {
			t.Errorf("P2.4: Split changed %v", given)
		}
	}
}

func TestSplitAsSlow(t *testing.T) {
	l := samples()
	die := rand.New(rand.NewSource(4))
	for n := range 40 {
		var some []api.Set
		for range n % 9 {
			some = append(some, l[die.Intn(len(l))])
		}
		got := sets.Split(some...)
		if want := slowSplit(some); !slices.Equal(got, want) {
			t.Fatalf("P2.4: Split(%v): %v, want %v", some, got, want)
		}
		for _, part := range got {
			for _, s := range some {
				if !sets.Within(part, s) && sets.Meet(part, s) != (api.Set{}) {
					t.Fatalf("P2.6: the part %v is not with %v", part, s)
				}
			}
		}
	}
	if got, want := sets.Split(l...), slowSplit(l); !slices.Equal(got, want) {
		t.Errorf("P2.4: Split of all samples: %d parts, want %d", len(got), len(want))
	}
}

func TestAnswersAreNewMemory(t *testing.T) {
	s := span('a', 'z')
	sets.Ranges(s)[0].From = 0
	sets.Split(s)[0] = api.Set{}
	if sets.Ranges(s)[0].From != 'a' || sets.Split(s)[0] != sets.Not(s) {
		t.Error("an answer shares memory with another one")
	}
}
