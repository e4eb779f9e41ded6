package deflex

import (
	"strconv"

	"rosetta/api"
	"rosetta/sets"
)

// maxNumber is the greatest number of maxDigits digits.
const maxNumber = 999_999_999

// Print tells words, one blank between each two.
func Print(l ...api.DefWord) (string, api.Errno) {
	for _, w := range l {
		if !mayBe(w) {
			return "", api.ErrArg
		}
	}
	var out []byte
	for i, w := range l {
		if i > 0 {
			out = append(out, ' ')
		}
		// A word is at least as long as its Text: one that is far too long is not even told.
		if len(out)+len(w.Text) > api.MaxText {
			return "", api.ErrLong
		}
		out = appendWord(out, w)
	}
	if len(out) > api.MaxText {
		return "", api.ErrLong
	}
	return string(out), api.OK
}

// mayBe tells whether a word is one that is read somewhere.
func mayBe(w api.DefWord) bool {
	may := false
	bare := api.DefWord{Kind: w.Kind, At: w.At}
	switch w.Kind {
	case api.WordName:
		may, bare.Text = Name(w.Text), w.Text
	case api.WordText:
		may, bare.Text = true, w.Text
	case api.WordSet:
		may, bare.Set = true, w.Set
	case api.WordNumber:
		may, bare.Number = 0 <= w.Number && w.Number <= maxNumber, w.Number
	case api.WordSign:
		may, bare.Text = len(w.Text) == 1 && isSign(w.Text[0]), w.Text
	}
	return may && w == bare // what its kind doesn't have is zero
}

// appendWord tells a word that may be.
func appendWord(out []byte, w api.DefWord) []byte {
	switch w.Kind {
	case api.WordText:
		return appendQuoted(out, w.Text)
	case api.WordSet:
		return append(out, sets.Text(w.Set)...)
	case api.WordNumber:
		return strconv.AppendInt(out, int64(w.Number), 10)
	}
	return append(out, w.Text...)
}

// Quote tells bytes as a text between two ".
func Quote(s string) string {
	return string(appendQuoted(nil, s))
}

// appendQuoted tells bytes as Quote does.
func appendQuoted(out []byte, s string) []byte {
	out = append(out, '"')
	for i := range len(s) {
		out = appendByte(out, s[i])
	}
	return append(out, '"')
}

// appendByte tells a byte: as itself, or as an escape.
func appendByte(out []byte, b byte) []byte {
	const digits = "0123456789abcdef"
	switch {
	case b == '\n':
		return append(out, `\n`...)
	case b == '\t':
		return append(out, `\t`...)
	case b == '\r':
		return append(out, `\r`...)
	case b == '"' || b == '\\':
		return append(out, '\\', b)
	case ' ' <= b && b <= '~':
		return append(out, b)
	}
	return append(out, '\\', 'x', digits[b>>4], digits[b&15])
}
