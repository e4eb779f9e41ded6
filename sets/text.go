package sets

import (
	"strconv"
	"strings"

	"rosetta/api"
)

const (
	// signs are the bytes that say something in a set's text, so that they stand there with a \ ahead.
	signs = `\[]-^`
	// mostTold is how many bytes a set has at most, if its text tells them and not the others.
	mostTold = 128
	// hexEscape is how long a \x and its two digits are.
	hexEscape = 4
)

// Text tells a set's text.
func Text(s api.Set) string {
	out := []byte{'['}
	if Count(s) > mostTold {
		out = append(out, '^')
		s = Not(s)
	}
	for _, r := range Ranges(s) {
		out = appendRange(out, r)
	}
	return string(append(out, ']'))
}

// appendRange tells a range: one byte, two bytes, or the first and the last of more.
func appendRange(out []byte, r api.Range) []byte {
	out = appendByte(out, r.From)
	if r.From == r.To {
		return out
	}
	if r.To-r.From > 1 {
		out = append(out, '-')
	}
	return appendByte(out, r.To)
}

// appendByte tells a byte: as itself, or as an escape.
func appendByte(out []byte, b byte) []byte {
	const digits = "0123456789abcdef"
	switch {
	case b == '\t':
		return append(out, `\t`...)
	case b == '\n':
		return append(out, `\n`...)
	case b == '\r':
		return append(out, `\r`...)
	case isSign(b):
		return append(out, '\\', b)
	case ' ' < b && b <= '~':
		return append(out, b)
	}
	return append(out, '\\', 'x', digits[b>>4], digits[b&15])
}

// Read reads a set's text.
func Read(text string) (api.Set, api.Errno) {
	rest, begun := strings.CutPrefix(text, "[")
	if !begun {
		return api.Set{}, api.ErrSet
	}
	rest, others := strings.CutPrefix(rest, "^")
	var s api.Set
items:
	for {
		r, length := readItem(rest)
		switch {
		case rest == "]":
			break items
		case length == 0:
			return api.Set{}, api.ErrSet
		}
		s = withRange(s, r)
		rest = rest[length:]
	}
	if others {
		s = Not(s)
	}
	return s, api.OK
}

// readItem reads the item with which a text begins, and tells how long it is: 0, if there is none.
func readItem(text string) (api.Range, int) {
	from, length := readByte(text)
	if length == 0 || !strings.HasPrefix(text[length:], "-") {
		return api.Range{From: from, To: from}, length
	}
	to, more := readByte(text[length+1:])
	if more == 0 || to < from {
		return api.Range{}, 0
	}
	return api.Range{From: from, To: to}, length + 1 + more
}

// readByte reads the byte with which a text begins, and tells how long it stands there: 0, if there is none.
func readByte(text string) (byte, int) {
	switch {
	case text == "":
		return 0, 0
	case text[0] == '\\':
		return readEscape(text)
	case ' ' <= text[0] && text[0] <= '~' && !isSign(text[0]):
		return text[0], 1
	}
	return 0, 0
}

// readEscape reads a byte behind a \, as readByte does.
func readEscape(text string) (byte, int) {
	if len(text) < 2 {
		return 0, 0
	}
	switch b := text[1]; {
	case b == 't':
		return '\t', 2
	case b == 'n':
		return '\n', 2
	case b == 'r':
		return '\r', 2
	case isSign(b):
		return b, 2
	case b == 'x' && len(text) >= hexEscape:
		if n, err := strconv.ParseUint(text[2:hexEscape], 16, 8); err == nil {
			return byte(n), hexEscape
		}
	}
	return 0, 0
}

// isSign tells whether a byte stands in a set's text with a \ ahead alone.
func isSign(b byte) bool {
	return strings.IndexByte(signs, b) >= 0
}
