package facts

import (
	"cmp"
	"slices"
	"strings"
)

// maxWhole is how many bytes a text has at most that is told whole.
const maxWhole = 1 << 12

// text is a text that is told whole, if it is short, else by its parts: long texts of many sorts that stand in one another would fill the memory, if each was told whole.
type text struct {
	size  int
	bytes string  // of one that is told whole
	parts []*text // of one that is not
}

// whole tells a short text.
func whole(bytes string) *text {
	return &text{size: len(bytes), bytes: bytes}
}

// join puts texts together: those that are short together become one that is told whole, and one text alone stays what it is.
func join(parts []*text) *text {
	out := &text{}
	for _, p := range parts {
		last := len(out.parts) - 1
		switch {
		case p.size == 0:
		case last >= 0 && out.parts[last].size+p.size <= maxWhole:
			out.parts[last] = whole(out.parts[last].bytes + p.bytes)
		default:
			out.parts = append(out.parts, p)
		}
		out.size += p.size
	}
	if len(out.parts) == 1 {
		return out.parts[0]
	}
	return out
}

// String tells a text.
func (t *text) String() string {
	var out strings.Builder
	r := reader{t}
	for piece := r.next(); piece != ""; piece = r.next() {
		out.WriteString(piece)
	}
	return out.String()
}

// reader is what is still to be read of a text, what comes first last.
type reader []*text

// next reads on until a piece that is told whole; nothing at the end.
func (r *reader) next() string {
	for len(*r) > 0 {
		last := len(*r) - 1
		t := (*r)[last]
		*r = (*r)[:last]
		if len(t.parts) == 0 {
			return t.bytes
		}
		for _, p := range slices.Backward(t.parts) {
			*r = append(*r, p)
		}
	}
	return ""
}

// compare tells which text is the less: the shorter one, of two of one length byte by byte.
func compare(a, b *text) int {
	if a == b || a.size != b.size {
		return cmp.Compare(a.size, b.size)
	}
	var x, y string
	for r, s := (reader{a}), (reader{b}); ; {
		if x == "" {
			x = r.next()
		}
		if y == "" {
			y = s.next()
		}
		n := min(len(x), len(y))
		if n == 0 { // both are at their end, as they have one length
			return 0
		}
		if c := strings.Compare(x[:n], y[:n]); c != 0 {
			return c
		}
		x, y = x[n:], y[n:]
	}
}
