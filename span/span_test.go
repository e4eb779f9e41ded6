package span_test

import (
	"iter"
	"math"
	"slices"
	"strings"
	"testing"

	"rosetta/api"
	"rosetta/span"
)

// The calls' signatures, as the chapter lists them.
var (
	_ func(string, int) (api.Pos, api.Errno)            = span.At
	_ func(string, api.Pos) (int, api.Errno)            = span.Place
	_ func(string) iter.Seq2[api.Span, string]          = span.Lines
	_ func(string, ...api.Edit) (string, api.Errno)     = span.Apply
	_ func(int, ...api.Edit) (int, api.Errno)           = span.Moved
	_ func(string, ...api.Edit) ([]api.Edit, api.Errno) = span.Undo
	_ func(string, string) (api.Edit, bool)             = span.Diff
)

// allTexts tells every text of at most most bytes out of the letters.
func allTexts(letters string, most int) []string {
	out := []string{""}
	for begin := 0; most > 0; most-- {
		end := len(out)
		for _, s := range out[begin:end] {
			for i := range len(letters) {
				out = append(out, s+letters[i:i+1])
			}
		}
		begin = end
	}
	return out
}

// slowPos counts a place's position byte by byte.
func slowPos(text string, place int) api.Pos {
	p := api.Pos{Line: 1, Column: 1}
	for i := range place {
		if text[i] == 10 {
			p = api.Pos{Line: p.Line + 1, Column: 1}
		} else {
			p.Column++
		}
	}
	return p
}

func TestAtAllSmall(t *testing.T) {
	for _, text := range allTexts("a\n\xff\r", 5) {
		for place := -2; place <= len(text)+2; place++ {
			p, e := span.At(text, place)
			want, err := api.Pos{}, api.ErrRange
			if 0 <= place && place <= len(text) {
				want, err = slowPos(text, place), api.OK
			}
			if p != want || e != err {
				t.Fatalf("P1.1: At(%q, %d): %v %v, want %v %v", text, place, p, e, want, err)
			}
		}
	}
}

func TestPlaceAllSmall(t *testing.T) {
	for _, text := range allTexts("a\n\xff\r", 5) {
		places := map[api.Pos]int{}
		for place := range len(text) + 1 {
			places[slowPos(text, place)] = place
		}
		for line := -1; line <= len(text)+3; line++ {
			for column := -1; column <= len(text)+3; column++ {
				p := api.Pos{Line: line, Column: column}
				place, e := span.Place(text, p)
				want, there := places[p]
				if place != want || (e == api.OK) != there || !there && e != api.ErrRange {
					t.Fatalf("P1.1: Place(%q, %v): %d %v, want %d %v", text, p, place, e, want, there)
				}
			}
		}
	}
}

func TestPlaceOfAt(t *testing.T) {
	for _, text := range allTexts("ab\n", 6) {
		for place := range len(text) + 1 {
			p, e := span.At(text, place)
			back, f := span.Place(text, p)
			if back != place || e != api.OK || f != api.OK {
				t.Fatalf("P1.5: %q: %d: %v %v, back %d %v", text, place, p, e, back, f)
			}
		}
	}
}

func TestAtExamples(t *testing.T) {
	for _, x := range []struct {
		text  string
		place int
		want  api.Pos
	}{
		{"ab\ncd", 0, api.Pos{Line: 1, Column: 1}},
		{"ab\ncd", 2, api.Pos{Line: 1, Column: 3}}, // the line end itself
		{"ab\ncd", 3, api.Pos{Line: 2, Column: 1}},
		{"ab\ncd", 4, api.Pos{Line: 2, Column: 2}},
		{"ab\ncd", 5, api.Pos{Line: 2, Column: 3}}, // the text's end
		{"", 0, api.Pos{Line: 1, Column: 1}},
		{"\n", 1, api.Pos{Line: 2, Column: 1}},
		{"ab\n", 3, api.Pos{Line: 2, Column: 1}},
		{"\n\n\n", 3, api.Pos{Line: 4, Column: 1}},
		{"\u00e9x", 2, api.Pos{Line: 1, Column: 3}}, // bytes, not runes
		{"a\rb", 3, api.Pos{Line: 1, Column: 4}},    // only the byte 10 ends a line
	} {
		if p, e := span.At(x.text, x.place); p != x.want || e != api.OK {
			t.Errorf("P1.1: At(%q, %d): %v %v, want %v", x.text, x.place, p, e, x.want)
		}
		if n, e := span.Place(x.text, x.want); n != x.place || e != api.OK {
			t.Errorf("P1.1: Place(%q, %v): %d %v, want %d", x.text, x.want, n, e, x.place)
		}
	}
}

func TestPlacesThatAreNotThere(t *testing.T) {
	for _, text := range []string{"", "ab", "ab\n", "ab\ncd"} {
		for _, place := range []int{-1, math.MinInt, len(text) + 1, api.MaxText, math.MaxInt} {
			if p, e := span.At(text, place); p != (api.Pos{}) || e != api.ErrRange {
				t.Errorf("P1.1: At(%q, %d): %v %v", text, place, p, e)
			}
		}
		for _, odd := range []int{0, -1, math.MinInt, 10, math.MaxInt, math.MaxInt - 1} {
			for _, p := range []api.Pos{{Line: odd, Column: 1}, {Line: 1, Column: odd}, {Line: odd, Column: odd}} {
				if n, e := span.Place(text, p); n != 0 || e != api.ErrRange {
					t.Errorf("P1.1: Place(%q, %v): %d %v", text, p, n, e)
				}
			}
		}
	}
	for _, x := range []struct {
		text string
		p    api.Pos
	}{
		{"", api.Pos{Line: 1, Column: 2}},
		{"", api.Pos{Line: 2, Column: 1}},
		{"ab\n", api.Pos{Line: 1, Column: 4}},
		{"ab\n", api.Pos{Line: 2, Column: 2}},
		{"ab\n", api.Pos{Line: 3, Column: 1}},
		{"ab\ncd", api.Pos{Line: 1, Column: 4}}, // that is 2 1
		{"ab\ncd", api.Pos{Line: 2, Column: 4}},
	} {
		if n, e := span.Place(x.text, x.p); n != 0 || e != api.ErrRange {
			t.Errorf("P1.1: Place(%q, %v): %d %v", x.text, x.p, n, e)
		}
	}
}

func TestPlacesAtTheBound(t *testing.T) {
	text := strings.Repeat("a", api.MaxText-1) + "\n"
	end := api.Pos{Line: 2, Column: 1}
	if p, e := span.At(text, api.MaxText); p != end || e != api.OK {
		t.Errorf("P1.1: At the bound: %v %v", p, e)
	}
	if n, e := span.Place(text, end); n != api.MaxText || e != api.OK {
		t.Errorf("P1.1: Place at the bound: %d %v", n, e)
	}
	lineEnds := strings.Repeat("\n", api.MaxText)
	last := api.Pos{Line: api.MaxText + 1, Column: 1}
	if p, e := span.At(lineEnds, api.MaxText); p != last || e != api.OK {
		t.Errorf("P1.1: At behind line ends: %v %v", p, e)
	}
	if n, e := span.Place(lineEnds, last); n != api.MaxText || e != api.OK {
		t.Errorf("P1.1: Place behind line ends: %d %v", n, e)
	}
}

func TestPlacesPastTheBound(t *testing.T) {
	long := strings.Repeat("a", api.MaxText+1)
	for _, place := range []int{0, 1, api.MaxText + 1, api.MaxText + 2, -1} { // ErrLong ahead of ErrRange
		if p, e := span.At(long, place); p != (api.Pos{}) || e != api.ErrLong {
			t.Errorf("P1.1: At(long, %d): %v %v", place, p, e)
		}
		if n, e := span.Place(long, api.Pos{Line: 1, Column: place}); n != 0 || e != api.ErrLong {
			t.Errorf("P1.1: Place(long, 1 %d): %d %v", place, n, e)
		}
	}
}

// line is what Lines tells of a line.
type line struct {
	span api.Span
	text string
}

func lines(text string) []line {
	var out []line
	for s, l := range span.Lines(text) {
		out = append(out, line{s, l})
	}
	return out
}

func TestLinesExamples(t *testing.T) {
	for _, x := range []struct {
		text string
		want []line
	}{
		{"", []line{{api.Span{From: 0, Until: 0}, ""}}},
		{"a", []line{{api.Span{From: 0, Until: 1}, "a"}}},
		{"\n", []line{{api.Span{From: 0, Until: 0}, ""}, {api.Span{From: 1, Until: 1}, ""}}},
		{"ab\n", []line{{api.Span{From: 0, Until: 2}, "ab"}, {api.Span{From: 3, Until: 3}, ""}}},
		{"a\n\nbc", []line{{api.Span{From: 0, Until: 1}, "a"}, {api.Span{From: 2, Until: 2}, ""}, {api.Span{From: 3, Until: 5}, "bc"}}},
		{"a\r\nb", []line{{api.Span{From: 0, Until: 2}, "a\r"}, {api.Span{From: 3, Until: 4}, "b"}}},
	} {
		if got := lines(x.text); !slices.Equal(got, x.want) {
			t.Errorf("P1.2: %q: %v, want %v", x.text, got, x.want)
		}
	}
}

func TestLinesAllSmall(t *testing.T) {
	for _, text := range allTexts("a\n\xff", 6) {
		parts := strings.Split(text, "\n")
		got := lines(text)
		if len(got) != len(parts) {
			t.Fatalf("P1.2: %q: %v", text, got)
		}
		from := 0
		for i, l := range got {
			want := line{api.Span{From: from, Until: from + len(parts[i])}, parts[i]}
			if l != want {
				t.Fatalf("P1.2: %q: line %d: %v, want %v", text, i, l, want)
			}
			from += len(parts[i]) + 1
		}
	}
}

func TestLinesAreLeft(t *testing.T) {
	text := "a\nb\nc\n"
	all := span.Lines(text)
	for most := range 5 {
		var got []string
		for _, l := range all {
			if len(got) == most {
				break
			}
			got = append(got, l)
		}
		if want := []string{"a", "b", "c", ""}[:most]; !slices.Equal(got, want) {
			t.Errorf("P1.2: left behind %d: %q", most, got)
		}
	}
	calls := 0
	all(func(api.Span, string) bool { calls++; return false })
	if calls != 1 {
		t.Errorf("P1.2: told %d lines to one who wanted one", calls)
	}
}

func TestLinesAgainAndWithin(t *testing.T) {
	all := span.Lines("a\nb")
	var got []string
	for _, outer := range all {
		for _, inner := range all {
			got = append(got, outer+inner)
		}
	}
	if want := []string{"aa", "ab", "ba", "bb"}; !slices.Equal(got, want) {
		t.Errorf("P1.2: %q, want %q", got, want)
	}
}

func TestLinesOfLongTexts(t *testing.T) {
	for _, n := range []int{api.MaxText, api.MaxText + 1} { // Lines tells no error: any text has lines
		count, bytes := 0, 0
		for s, l := range span.Lines(strings.Repeat("a\n", n/2) + strings.Repeat("b", n%2)) {
			count++
			bytes += len(l)
			if s.Until-s.From != len(l) {
				t.Fatalf("P1.2: %v of %q", s, l)
			}
		}
		if count != n/2+1 || bytes != n/2+n%2 {
			t.Errorf("P1.2: of %d bytes: %d lines, %d bytes", n, count, bytes)
		}
	}
}

func TestDiffExamples(t *testing.T) {
	for _, x := range []struct {
		a, b string
		want api.Edit
		ok   bool
	}{
		{"abcd", "abXd", edit(2, 3, "X"), true},
		{"", "", api.Edit{}, false},
		{"ab", "ab", api.Edit{}, false},
		{"", "ab", edit(0, 0, "ab"), true},
		{"ab", "", edit(0, 2, ""), true},
		{"aa", "a", edit(1, 2, ""), true}, // the begin goes ahead of the end
		{"a", "aa", edit(1, 1, "a"), true},
		{"aba", "ababa", edit(3, 3, "ba"), true},
		{"ababa", "aba", edit(3, 5, ""), true},
		{"abc", "xyz", edit(0, 3, "xyz"), true},
		{"xab", "yab", edit(0, 1, "y"), true},
		{"\u00e9", "\u00e8", edit(1, 2, "\xa8"), true}, // bytes, not runes
		{"a\n", "a\n\n", edit(2, 2, "\n"), true},
	} {
		if d, ok := span.Diff(x.a, x.b); d != x.want || ok != x.ok {
			t.Errorf("P1.4: Diff(%q, %q): %v %v, want %v %v", x.a, x.b, d, ok, x.want, x.ok)
		}
	}
}

// slowDiff leaves out what both begin with, then what both end with, a byte at a time.
func slowDiff(a, b string) api.Edit {
	from, cut := 0, 0
	for from+1 <= len(a) && strings.HasPrefix(b, a[:from+1]) {
		from++
	}
	for cut+1 <= len(a)-from && strings.HasSuffix(b[from:], a[len(a)-cut-1:]) {
		cut++
	}
	return edit(from, len(a)-cut, b[from:len(b)-cut])
}

func TestDiffAllSmall(t *testing.T) {
	texts := allTexts("ab", 6)
	for _, a := range texts {
		for _, b := range texts {
			d, ok := span.Diff(a, b)
			if a == b {
				if d != (api.Edit{}) || ok {
					t.Fatalf("P1.4: Diff(%q, %q): %v %v", a, b, d, ok)
				}
			} else if d != slowDiff(a, b) || !ok {
				t.Fatalf("P1.4: Diff(%q, %q): %v %v, want %v", a, b, d, ok, slowDiff(a, b))
			}
			if s, e := span.Apply(a, d); s != b || e != api.OK {
				t.Fatalf("P1.5: Apply(%q, %v): %q %v, want %q", a, d, s, e, b)
			}
		}
	}
}

func TestDiffOfLongTexts(t *testing.T) {
	long := strings.Repeat("a", api.MaxText)
	if d, ok := span.Diff(long, long[1:]); d != edit(api.MaxText-1, api.MaxText, "") || !ok {
		t.Errorf("P1.4: at the bound: %v %v", d.Span, ok)
	}
	if d, ok := span.Diff(long, long+"bb"); d != edit(api.MaxText, api.MaxText, "bb") || !ok { // Diff tells no error
		t.Errorf("P1.4: past the bound: %v %v", d.Span, ok)
	}
	if d, ok := span.Diff(long+"b", long+"b"); d != (api.Edit{}) || ok {
		t.Errorf("P1.4: equal past the bound: %v %v", d.Span, ok)
	}
}
