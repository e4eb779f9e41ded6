package span_test

import (
	"math"
	"slices"
	"strings"
	"testing"

	"rosetta/api"
	"rosetta/span"
)

func edit(from, until int, text string) api.Edit {
	return api.Edit{Span: api.Span{From: from, Until: until}, Text: text}
}

func isEmpty(s api.Span) bool { return s.From == s.Until }

// clash tells whether two edits alone may not be made together.
func clash(a, b api.Edit) bool {
	x, y := a.Span, b.Span
	switch {
	case isEmpty(x) && isEmpty(y):
		return x == y
	case isEmpty(x):
		return y.From < x.From && x.From < y.Until
	case isEmpty(y):
		return x.From < y.From && y.From < x.Until
	}
	return max(x.From, y.From) < min(x.Until, y.Until)
}

func anyClash(edits []api.Edit) bool {
	for i, a := range edits {
		for _, b := range edits[:i] {
			if clash(a, b) {
				return true
			}
		}
	}
	return false
}

// model is what edits that may be made together make, worked out place by place of the old text.
type model struct {
	text  string
	moved []int      // where each old place stands
	undo  []api.Edit // what makes the old text again
}

func modelOf(old string, edits []api.Edit) model {
	var m model
	var cutUntil, cutBegin int
	for place := range len(old) + 1 {
		for _, e := range edits {
			if isEmpty(e.Span) && e.Span.From == place {
				m.make(old, e)
			}
		}
		m.moved = append(m.moved, len(m.text))
		if place < cutUntil {
			m.moved[place] = cutBegin
		}
		for _, e := range edits {
			if !isEmpty(e.Span) && e.Span.From == place {
				cutBegin, cutUntil = len(m.text), e.Span.Until
				m.make(old, e)
			}
		}
		if place < len(old) && place >= cutUntil {
			m.text += old[place : place+1]
		}
	}
	return m
}

// make puts an edit's text at the new text's end.
func (m *model) make(old string, e api.Edit) {
	from := len(m.text)
	m.text += e.Text
	back := edit(from, len(m.text), old[e.Span.From:e.Span.Until])
	last := len(m.undo) - 1
	if last >= 0 && isEmpty(back.Span) && m.undo[last].Span == back.Span {
		m.undo[last].Text += back.Text
	} else {
		m.undo = append(m.undo, back)
	}
}

// smallEdits tells every edit of a text of n bytes with a Text of 0 to 2 bytes.
func smallEdits(n int) []api.Edit {
	var out []api.Edit
	for from := range n + 1 {
		for until := from; until <= n; until++ {
			for _, text := range []string{"", "X", "YZ"} {
				out = append(out, edit(from, until, text))
			}
		}
	}
	return out
}

// checkEdits holds all that is promised of edits against the model.
func checkEdits(t *testing.T, old string, edits ...api.Edit) {
	t.Helper()
	s, e := span.Apply(old, edits...)
	u, f := span.Undo(old, edits...)
	if anyClash(edits) {
		n, g := span.Moved(0, edits...)
		if s != "" || u != nil || n != 0 || e != api.ErrOver || f != api.ErrOver || g != api.ErrOver {
			t.Fatalf("P1.3: %q %v: %q %v; %v %v; %d %v; want ErrOver", old, edits, s, e, u, f, n, g)
		}
		return
	}
	want := modelOf(old, edits)
	if s != want.text || e != api.OK {
		t.Fatalf("P1.3: Apply(%q, %v): %q %v, want %q", old, edits, s, e, want.text)
	}
	if !slices.Equal(u, want.undo) || f != api.OK {
		t.Fatalf("P1.3: Undo(%q, %v): %v %v, want %v", old, edits, u, f, want.undo)
	}
	if back, e := span.Apply(s, u...); back != old || e != api.OK {
		t.Fatalf("P1.5: Apply(%q, %v): %q %v, want %q", s, u, back, e, old)
	}
	for place, moved := range want.moved {
		if n, e := span.Moved(place, edits...); n != moved || e != api.OK {
			t.Fatalf("P1.3: Moved(%d, %v): %d %v, want %d", place, edits, n, e, moved)
		}
	}
}

// All orders of each set of edits are among these, so that P1.5's 'in whatever order' is asked too.
func TestEditsAllSmall(t *testing.T) {
	for _, old := range []string{"", "a", "ab", "abc", "a\nc"} {
		all := smallEdits(len(old))
		checkEdits(t, old)
		for _, a := range all {
			checkEdits(t, old, a)
			for _, b := range all {
				checkEdits(t, old, a, b)
				for _, c := range all {
					checkEdits(t, old, a, b, c)
				}
			}
		}
	}
}

func TestEditsInAnyOrder(t *testing.T) {
	old := "abcdefgh"
	edits := []api.Edit{edit(0, 0, "1"), edit(0, 2, ""), edit(2, 2, ""), edit(2, 3, ""), edit(3, 5, "234"), edit(6, 6, "5"), edit(8, 8, "6")}
	want := modelOf(old, edits)
	var permute func(n int)
	permute = func(n int) {
		if n == 0 {
			s, e := span.Apply(old, edits...)
			u, f := span.Undo(old, edits...)
			if s != want.text || e != api.OK || !slices.Equal(u, want.undo) || f != api.OK {
				t.Fatalf("P1.5: %v: %q %v; %v %v; want %q; %v", edits, s, e, u, f, want.text, want.undo)
			}
			for place, moved := range want.moved {
				if n, e := span.Moved(place, edits...); n != moved || e != api.OK {
					t.Fatalf("P1.5: Moved(%d, %v): %d %v, want %d", place, edits, n, e, moved)
				}
			}
			return
		}
		for i := range n {
			edits[i], edits[n-1] = edits[n-1], edits[i]
			permute(n - 1)
			edits[i], edits[n-1] = edits[n-1], edits[i]
		}
	}
	permute(len(edits))
}

func TestApplyExamples(t *testing.T) {
	for _, x := range []struct {
		old   string
		edits []api.Edit
		want  string
		err   api.Errno
	}{
		{"abcd", []api.Edit{edit(1, 2, "X"), edit(4, 4, "Y")}, "aXcdY", api.OK},
		{"abcd", []api.Edit{edit(0, 2, ""), edit(1, 3, "")}, "", api.ErrOver},
		{"abcd", nil, "abcd", api.OK},
		{"", nil, "", api.OK},
		{"", []api.Edit{edit(0, 0, "new")}, "new", api.OK},
		{"abcd", []api.Edit{edit(0, 4, "")}, "", api.OK},
		{"abcd", []api.Edit{edit(0, 2, "X"), edit(2, 4, "Y")}, "XY", api.OK},                     // they touch
		{"abcd", []api.Edit{edit(2, 4, "Y"), edit(2, 2, "+"), edit(0, 2, "X")}, "X+Y", api.OK},   // an empty one between
		{"abcd", []api.Edit{edit(1, 3, "X"), edit(1, 1, "+"), edit(3, 3, "-")}, "a+X-d", api.OK}, // and at both ends
		{"abcd", []api.Edit{edit(2, 2, "X"), edit(2, 2, "Y")}, "", api.ErrOver},
		{"abcd", []api.Edit{edit(2, 2, ""), edit(2, 2, "")}, "", api.ErrOver},
		{"abcd", []api.Edit{edit(2, 2, "X"), edit(2, 3, ""), edit(2, 2, "X")}, "", api.ErrOver},
		{"abcd", []api.Edit{edit(1, 3, "X"), edit(2, 2, "Y")}, "", api.ErrOver},
		{"abcd", []api.Edit{edit(1, 3, "X"), edit(1, 3, "X")}, "", api.ErrOver}, // the same twice
		{"abcd", []api.Edit{edit(1, 2, "X"), edit(1, 3, "X")}, "", api.ErrOver},
		{"abcd", []api.Edit{edit(0, 4, ""), edit(1, 2, ""), edit(4, 4, "")}, "", api.ErrOver},
	} {
		if s, e := span.Apply(x.old, x.edits...); s != x.want || e != x.err {
			t.Errorf("P1.3: Apply(%q, %v): %q %v, want %q %v", x.old, x.edits, s, e, x.want, x.err)
		}
		if u, e := span.Undo(x.old, x.edits...); e != x.err || e != api.OK && u != nil {
			t.Errorf("P1.3: Undo(%q, %v): %v %v, want %v", x.old, x.edits, u, e, x.err)
		}
	}
}

func TestUndoExamples(t *testing.T) {
	for _, x := range []struct {
		old         string
		edits, want []api.Edit
	}{
		{"abcd", nil, nil},
		{"abcd", []api.Edit{edit(4, 4, "Y"), edit(1, 2, "X")}, []api.Edit{edit(1, 2, "b"), edit(4, 5, "")}},
		{"abcd", []api.Edit{edit(2, 2, "")}, []api.Edit{edit(2, 2, "")}}, // one for each, even of what changes nothing
		{"abcd", []api.Edit{edit(2, 3, ""), edit(0, 1, ""), edit(1, 2, "")}, []api.Edit{edit(0, 0, "abc")}},
		{"abcd", []api.Edit{edit(0, 1, ""), edit(1, 1, ""), edit(1, 2, "")}, []api.Edit{edit(0, 0, "ab")}},
		{"abcd", []api.Edit{edit(0, 1, ""), edit(1, 1, "X"), edit(1, 2, "")}, []api.Edit{edit(0, 0, "a"), edit(0, 1, ""), edit(1, 1, "b")}},
		{"abcd", []api.Edit{edit(0, 1, ""), edit(1, 2, "X")}, []api.Edit{edit(0, 0, "a"), edit(0, 1, "b")}},
		{"abcd", []api.Edit{edit(0, 1, "X"), edit(1, 2, "")}, []api.Edit{edit(0, 1, "a"), edit(1, 1, "b")}},
		{"abcd", []api.Edit{edit(0, 1, ""), edit(2, 3, "")}, []api.Edit{edit(0, 0, "a"), edit(1, 1, "c")}}, // b stands between
	} {
		if u, e := span.Undo(x.old, x.edits...); !slices.Equal(u, x.want) || e != api.OK {
			t.Errorf("P1.3: Undo(%q, %v): %v %v, want %v", x.old, x.edits, u, e, x.want)
		}
	}
}

func TestMovedExamples(t *testing.T) {
	for _, x := range []struct {
		place int
		edits []api.Edit
		want  int
	}{
		{3, []api.Edit{edit(1, 2, "XYZ")}, 5},
		{3, nil, 3},
		{0, []api.Edit{edit(0, 0, "XY")}, 2}, // empty there: behind its Text
		{1, []api.Edit{edit(2, 2, "XY")}, 1},
		{2, []api.Edit{edit(0, 2, "XYZ")}, 3}, // ends there: behind its Text
		{1, []api.Edit{edit(1, 4, "X")}, 1},   // begins there: it stays
		{2, []api.Edit{edit(1, 4, "X")}, 1},
		{4, []api.Edit{edit(1, 4, "X")}, 2},
		{2, []api.Edit{edit(2, 4, "b"), edit(2, 2, "X"), edit(0, 2, "a")}, 2},
		{3, []api.Edit{edit(2, 4, "b"), edit(2, 2, "X"), edit(0, 2, "a")}, 2},
		{3, []api.Edit{edit(0, 0, strings.Repeat("x", api.MaxText+1))}, api.MaxText + 4}, // no text, no bound
		{1 << 62, []api.Edit{edit(0, 1<<62, "X")}, 1},
		{1<<62 - 1, []api.Edit{edit(0, 1<<62, "X")}, 0},
		{1 << 62, []api.Edit{edit(1<<62, 1<<62, "X")}, 1<<62 + 1},
		{math.MaxInt, []api.Edit{edit(0, 1<<62, "X")}, 1 << 62},
		{math.MaxInt - 1, []api.Edit{edit(0, 0, "X")}, math.MaxInt},
		{math.MaxInt, []api.Edit{edit(0, 1, "X")}, math.MaxInt},
		{math.MaxInt, []api.Edit{edit(0, 0, "X"), edit(0, 1, "")}, math.MaxInt},
	} {
		if n, e := span.Moved(x.place, x.edits...); n != x.want || e != api.OK {
			t.Errorf("P1.3: Moved(%d, %v): %d %v, want %d", x.place, spans(x.edits), n, e, x.want)
		}
	}
}

func spans(edits []api.Edit) []api.Span {
	var out []api.Span
	for _, e := range edits {
		out = append(out, e.Span)
	}
	return out
}

func TestMovedErrors(t *testing.T) {
	over := []api.Edit{edit(1, 3, ""), edit(2, 4, "")}
	for _, x := range []struct {
		place int
		edits []api.Edit
		want  api.Errno
	}{
		{-1, nil, api.ErrRange},
		{math.MinInt, nil, api.ErrRange},
		{-1, over, api.ErrRange}, // ahead of ErrOver
		{0, append(slices.Clone(over), edit(-1, 0, "")), api.ErrRange},
		{0, []api.Edit{edit(-1, 0, "")}, api.ErrRange},
		{0, []api.Edit{edit(2, 1, "")}, api.ErrRange},
		{0, []api.Edit{edit(0, 1<<62+1, "")}, api.ErrRange},
		{0, []api.Edit{edit(math.MinInt, math.MaxInt, "")}, api.ErrRange},
		{0, []api.Edit{edit(math.MaxInt, math.MinInt, "")}, api.ErrRange},
		{0, []api.Edit{edit(0, math.MaxInt, "")}, api.ErrRange},
		{0, over, api.ErrOver},
		{9, over, api.ErrOver},
		{0, []api.Edit{edit(0, 1<<62, ""), edit(1, 1<<62, "")}, api.ErrOver},
		{math.MaxInt, []api.Edit{edit(0, 0, "X")}, api.ErrRange}, // no number tells it
	} {
		if n, e := span.Moved(x.place, x.edits...); n != 0 || e != x.want {
			t.Errorf("P1.3: Moved(%d, %v): %d %v, want %v", x.place, x.edits, n, e, x.want)
		}
	}
}

// refused asks Apply and Undo, which have the same errors.
func refused(t *testing.T, name string, want api.Errno, text string, edits ...api.Edit) {
	t.Helper()
	if s, e := span.Apply(text, edits...); s != "" || e != want {
		t.Errorf("P1.3: Apply: %s: %d bytes, %v, want %v", name, len(s), e, want)
	}
	if u, e := span.Undo(text, edits...); u != nil || e != want {
		t.Errorf("P1.3: Undo: %s: %d edits, %v, want %v", name, len(u), e, want)
	}
}

func TestSpansThatAreNotThere(t *testing.T) {
	for _, e := range []api.Edit{
		edit(-1, 0, ""), edit(-1, -1, ""), edit(2, 1, ""), edit(0, 5, ""), edit(5, 5, ""), edit(4, 3, ""),
		edit(math.MinInt, 0, ""), edit(0, math.MaxInt, ""), edit(math.MaxInt, math.MaxInt, ""),
		edit(math.MaxInt, math.MinInt, ""), edit(math.MinInt, math.MaxInt, ""), edit(0, 1<<62, ""),
	} {
		refused(t, "alone", api.ErrRange, "abcd", e)
		refused(t, "behind one that is there", api.ErrRange, "abcd", edit(0, 1, "X"), e)
	}
	refused(t, "of an empty text", api.ErrRange, "", edit(0, 1, ""))
}

func TestEditsErrorsInOrder(t *testing.T) {
	full := strings.Repeat("a", api.MaxText)
	out, over := edit(-1, 0, ""), []api.Edit{edit(0, 2, ""), edit(1, 3, "")}
	refused(t, "a long text", api.ErrLong, full+"a")
	refused(t, "a long text, made shorter", api.ErrLong, full+"a", edit(0, 1, ""))
	refused(t, "a long text, a span that is not there", api.ErrLong, full+"a", out)
	refused(t, "a long text, edits that overlap", api.ErrLong, full+"a", over...)
	refused(t, "a span that is not there, edits that overlap", api.ErrRange, full, append(slices.Clone(over), out)...)
	refused(t, "a span that is not there, too long an end", api.ErrRange, full, edit(0, 0, "x"), out)
	refused(t, "edits that overlap, too long an end", api.ErrOver, full, append(slices.Clone(over), edit(9, 9, "xxxxxxxxx"))...)
	refused(t, "two empty ones, too long an end", api.ErrOver, full, edit(0, 0, "x"), edit(0, 0, "x"))
	refused(t, "too long an end", api.ErrLong, full, edit(0, 0, "x"))
	refused(t, "a Text past the bound", api.ErrLong, "", edit(0, 0, full+"a"))
	refused(t, "a Text past the bound, a span that is not there", api.ErrRange, "", edit(0, 1, full+"a"))
	refused(t, "Texts past the bound in all", api.ErrLong, "ab", edit(0, 1, full), edit(1, 2, "x"))
}

func TestEditsAtTheBound(t *testing.T) {
	full := strings.Repeat("a", api.MaxText)
	for name, x := range map[string]struct {
		old, want string
		edits     []api.Edit
	}{
		"a text at the bound":       {full, full, nil},
		"replaced":                  {full, "b" + full[1:], []api.Edit{edit(0, 1, "b")}},
		"grown up to it":            {full[1:], full, []api.Edit{edit(7, 7, "a")}},
		"a Text at the bound":       {"", full, []api.Edit{edit(0, 0, full)}},
		"a Text in a text's place":  {full, strings.Repeat("b", api.MaxText), []api.Edit{edit(0, api.MaxText, strings.Repeat("b", api.MaxText))}},
		"as much cut as put":        {full, full[1:] + "b", []api.Edit{edit(api.MaxText, api.MaxText, "b"), edit(0, 1, "")}},
		"cut whole":                 {full, "", []api.Edit{edit(0, api.MaxText, "")}},
		"put first, cut further on": {full, "b" + full[1:], []api.Edit{edit(0, 0, "b"), edit(9, 10, "")}},
	} {
		s, e := span.Apply(x.old, x.edits...)
		if s != x.want || e != api.OK {
			t.Errorf("P1.3: %s: %d bytes, %v", name, len(s), e)
		}
		u, e := span.Undo(x.old, x.edits...)
		if back, f := span.Apply(s, u...); back != x.old || e != api.OK || f != api.OK {
			t.Errorf("P1.5: %s: %d bytes, %v %v", name, len(back), e, f)
		}
	}
}

func TestManyEdits(t *testing.T) {
	old := strings.Repeat("ab", api.MaxText/2)
	var cuts, puts []api.Edit
	for i := api.MaxText - 1; i >= 0; i-- {
		cuts = append(cuts, edit(i, i+1, ""))
		puts = append(puts, edit(i, i+1, "c"))
	}
	u, e := span.Undo(old, cuts...)
	if len(u) != 1 || e != api.OK || u[0] != edit(0, 0, old) {
		t.Errorf("P1.3: Undo of many cuts: %d edits, %v", len(u), e)
	}
	if s, e := span.Apply(old, puts...); s != strings.Repeat("c", api.MaxText) || e != api.OK {
		t.Errorf("P1.3: Apply of many: %d bytes, %v", len(s), e)
	}
	if n, e := span.Moved(api.MaxText, cuts...); n != 0 || e != api.OK {
		t.Errorf("P1.3: Moved by many: %d %v", n, e)
	}
}

func TestEditsStayAsTheyAre(t *testing.T) {
	room := []api.Edit{edit(3, 4, "Z"), edit(1, 2, ""), edit(0, 1, ""), edit(9, 9, "spare"), edit(8, 8, "room")}
	was := slices.Clone(room)
	edits := room[:3]
	span.Apply("abcd", edits...)
	span.Undo("abcd", edits...)
	span.Moved(4, edits...)
	if !slices.Equal(room, was) {
		t.Errorf("P1.3: what was handed in is changed: %v", room)
	}
	u, _ := span.Undo("abcd", edits...)
	again, _ := span.Undo("abcd", edits...)
	u[0] = edit(7, 7, "mine")
	if again[0] == u[0] || !slices.Equal(room, was) {
		t.Errorf("P1.3: an answer shares memory: %v %v", again, room)
	}
}
