package filters_test

import (
	"math"
	"testing"

	"rosetta/api"
	"rosetta/filters"
	"rosetta/sets"
)

// Rejected and Followed: ordinary answers, the bounds of their arguments, what is wrong, alone and at once.
func TestSingle(t *testing.T) {
	g := read("S A B", "S = [a] : reject", "A = [\\x00] [\\xff] : reject", "A = : reject", "S = A", "A = [b]", "A = [c] : reject", "follow A [\\x00\\xff]", "follow S [a]")
	rejected := func(sort int, text string, want bool, e api.Errno) {
		t.Helper()
		if is, got := filters.Rejected(g, sort, text); is != want || got != e {
			t.Errorf("P12.2: Rejected of %d, %q: %v %v, want %v %v", sort, text, is, got, want, e)
		}
	}
	rejected(0, "a", true, api.OK)
	rejected(0, "b", false, api.OK)
	rejected(0, "", false, api.OK)
	rejected(0, "aa", false, api.OK)
	rejected(1, "", true, api.OK)
	rejected(1, "\x00\xff", true, api.OK)
	rejected(1, "\xff\x00", false, api.OK)
	rejected(1, "a", false, api.OK)
	rejected(1, "b", false, api.OK)
	rejected(1, "c", true, api.OK)
	rejected(2, "", false, api.OK)
	rejected(2, "a", false, api.OK)
	rejected(2, string(make([]byte, api.MaxText+1)), false, api.OK)
	for _, sort := range []int{-1, 3, math.MinInt, math.MaxInt} {
		rejected(sort, "a", false, api.ErrRange)
		rejected(sort, "", false, api.ErrRange)
	}
	followed := func(sort int, text string, until int, want bool, e api.Errno) {
		t.Helper()
		if is, got := filters.Followed(g, sort, text, until); is != want || got != e {
			t.Errorf("P12.2: Followed of %d, %q at %d: %v %v, want %v %v", sort, text, until, is, got, want, e)
		}
	}
	text := "a\x00\xffa"
	for until, want := range "f..f." {
		followed(0, text, until, want == 'f', api.OK)
	}
	for until, want := range ".ff.." {
		followed(1, text, until, want == 'f', api.OK)
		followed(2, text, until, false, api.OK)
	}
	for _, sort := range []int{0, 1, 2} {
		followed(sort, "", 0, false, api.OK)
		for _, until := range []int{-1, 5, math.MinInt, math.MaxInt} {
			followed(sort, text, until, false, api.ErrRange)
		}
		followed(sort, "", 1, false, api.ErrRange)
	}
	for _, sort := range []int{-1, 3, math.MinInt, math.MaxInt} {
		for _, until := range []int{-1, 0, 1, 4, 5, math.MinInt, math.MaxInt} {
			followed(sort, text, until, false, api.ErrRange)
		}
	}
	for _, bad := range refused() {
		g = bad
		for _, sort := range []int{0, 1, -1, 3} {
			rejected(sort, "b", false, api.ErrGrammar)
			followed(sort, "a", 0, false, api.ErrGrammar)
			followed(sort, "a", 2, false, api.ErrGrammar)
		}
	}
}

// Each byte, in each set of one byte.
func TestEachByte(t *testing.T) {
	for b := range 256 {
		g := api.Grammar{Sorts: []string{"S"}, Prods: []api.Prod{{Right: []api.Sym{{Set: sets.Of(byte(b))}}, Role: api.RoleReject}}, Follow: []api.Follow{{Not: sets.Of(byte(b))}}}
		for c := range 256 {
			text := string([]byte{byte(c)})
			is, e := filters.Rejected(g, 0, text)
			is2, e2 := filters.Followed(g, 0, text, 0)
			if is != (b == c) || is2 != (b == c) || e != api.OK || e2 != api.OK {
				t.Fatalf("P12.2: %d by %d: %v %v %v %v", c, b, is, e, is2, e2)
			}
		}
	}
}
