package span

import (
	"cmp"
	"math"
	"slices"
	"strings"

	"rosetta/api"
)

// farthest bounds an edit's span where no text's length does.
const farthest = 1 << 62

// Apply makes edits.
func Apply(text string, edits ...api.Edit) (string, api.Errno) {
	sorted, err := applicable(text, edits)
	if err != api.OK {
		return "", err
	}
	g := grower{old: text}
	for _, e := range sorted {
		g.replace(e)
	}
	return g.rest(), api.OK
}

// Moved tells where a place stands behind edits.
func Moved(place int, edits ...api.Edit) (int, api.Errno) {
	if place < 0 {
		return 0, api.ErrRange
	}
	sorted, err := together(farthest, edits)
	if err != api.OK {
		return 0, err
	}
	shift := 0
	for _, e := range sorted {
		if e.Span.Until > place {
			// What stands at From or ahead of it stays; what is cut comes to the begin of the edit's Text.
			place = min(place, e.Span.From)
			break
		}
		shift += growth(e)
	}
	if shift > math.MaxInt-place {
		return 0, api.ErrRange // no number tells it
	}
	return place + shift, api.OK
}

// Undo tells edits that make the old text again.
func Undo(text string, edits ...api.Edit) ([]api.Edit, api.Errno) {
	sorted, err := applicable(text, edits)
	if err != api.OK {
		return nil, err
	}
	var back []api.Edit
	shift := 0
	for _, e := range joinCuts(sorted) {
		from := e.Span.From + shift
		back = append(back, api.Edit{
			Span: api.Span{From: from, Until: from + len(e.Text)},
			Text: strings.Clone(text[e.Span.From:e.Span.Until]),
		})
		shift += growth(e)
	}
	return back, api.OK
}

// applicable tells the edits by rising place, if they can be made in the text.
func applicable(text string, edits []api.Edit) ([]api.Edit, api.Errno) {
	if len(text) > api.MaxText {
		return nil, api.ErrLong
	}
	sorted, err := together(len(text), edits)
	if err != api.OK {
		return nil, err
	}
	length := len(text)
	for _, e := range sorted {
		length += growth(e)
	}
	if length > api.MaxText {
		return nil, api.ErrLong
	}
	return sorted, api.OK
}

// together tells the edits by rising place, if their spans are there up to end and they may be made together.
func together(end int, edits []api.Edit) ([]api.Edit, api.Errno) {
	for _, e := range edits {
		if e.Span.From < 0 || e.Span.From > e.Span.Until || e.Span.Until > end {
			return nil, api.ErrRange
		}
	}
	// The caller's list stays as it is. Spans that are alike stand in any order, but those are refused.
	sorted := slices.Clone(edits)
	slices.SortFunc(sorted, func(a, b api.Edit) int {
		return cmp.Or(cmp.Compare(a.Span.From, b.Span.From), cmp.Compare(a.Span.Until, b.Span.Until))
	})
	if overlap(sorted) {
		return nil, api.ErrOver
	}
	return sorted, api.OK
}

// overlap tells whether sorted edits may not be made together.
func overlap(sorted []api.Edit) bool {
	found := false
search:
	for i := 1; i < len(sorted); i++ {
		ahead, next := sorted[i-1].Span, sorted[i].Span
		switch {
		case next.From < ahead.Until:
			found = true
			break search
		case next == ahead: // only two empty ones come here
			found = true
			break search
		}
	}
	return found
}

// growth tells how many bytes longer an edit makes a text.
func growth(e api.Edit) int {
	return len(e.Text) - (e.Span.Until - e.Span.From)
}

// joinCuts makes one of cuts that touch: what they cut comes back at one place.
func joinCuts(sorted []api.Edit) []api.Edit {
	var joined []api.Edit
	for _, e := range sorted {
		last := len(joined) - 1
		if last >= 0 && e.Text == "" && joined[last].Text == "" && joined[last].Span.Until == e.Span.From {
			joined[last].Span.Until = e.Span.Until
		} else {
			joined = append(joined, e)
		}
	}
	return joined
}

// grower grows a new text out of an old one.
type grower struct {
	strings.Builder
	old  string
	done int // how many bytes of old were kept or cut
}

// replace keeps what stands ahead of an edit, and makes it.
func (g *grower) replace(e api.Edit) {
	g.WriteString(g.old[g.done:e.Span.From])
	g.WriteString(e.Text)
	g.done = e.Span.Until
}

// rest keeps what no edit reached, and tells the new text.
func (g *grower) rest() string {
	g.WriteString(g.old[g.done:])
	return g.String()
}
