package deflex

import (
	"strconv"
	"strings"

	"rosetta/api"
	"rosetta/sets"
)

const (
	// signs are the bytes that are words by themselves.
	signs = ";.=,(){}>?*+"
	// maxDigits is how many digits a number has at most.
	maxDigits = 9
	// hexEscape is how long a \x and its two digits are.
	hexEscape = 4
)

// unread is what a reader gives up with.
type unread struct {
	err api.Errno
}

// reader reads a text's words, one behind the other.
type reader struct {
	text string
	at   int // it moves on behind a whole word alone, so that a word that is given up begins here
}

// next reads a word, if there is one more.
func (r *reader) next() (api.DefWord, bool) {
	r.passBlanks()
	if r.at == len(r.text) {
		return api.DefWord{}, false
	}
	w := api.DefWord{At: r.at}
	switch b := r.text[r.at]; {
	case 'A' <= b && b <= 'Z':
		fallthrough
	case 'a' <= b && b <= 'z':
		fallthrough
	case b == '_':
		w.Kind, w.Text = api.WordName, r.readName()
	case isDigit(b):
		w.Kind, w.Number = api.WordNumber, r.readNumber()
	case b == '"':
		w.Kind, w.Text = api.WordText, r.readText()
	case b == '[':
		w.Kind, w.Set = api.WordSet, r.readSet()
	case isSign(b):
		w.Kind, w.Text = api.WordSign, r.take(1)
	default:
		r.giveUp()
	}
	return w, true
}

// passBlanks goes on to the next byte that is no blank and in no comment.
func (r *reader) passBlanks() {
	for r.at < len(r.text) {
		rest := r.text[r.at:]
		switch {
		case isBlank(rest[0]):
			r.at++
		case strings.HasPrefix(rest, "//"):
			comment, _, _ := strings.Cut(rest, "\n")
			r.at += len(comment)
		default:
			return
		}
	}
}

// giveUp gives up the word that begins here.
func (r *reader) giveUp() {
	panic(unread{api.ErrWord})
}

// take moves on behind the next bytes, and tells them.
func (r *reader) take(length int) string {
	s := strings.Clone(r.text[r.at : r.at+length])
	r.at += length
	return s
}

// readName reads the name that begins here.
func (r *reader) readName() string {
	rest := r.text[r.at:]
	length := runLength(rest)
	if !Name(rest[:length]) { // it is too long
		r.giveUp()
	}
	return r.take(length)
}

// readNumber reads the number that begins here, up to where a name would end: what may not follow a number is in it then, and no digit.
func (r *reader) readNumber() int {
	rest := r.text[r.at:]
	length := runLength(rest)
	if length > maxDigits {
		r.giveUp()
	}
	n, err := strconv.Atoi(rest[:length])
	if err != nil || strconv.Itoa(n) != rest[:length] { // it has another byte than digits, or a 0 ahead
		r.giveUp()
	}
	r.at += length
	return n
}

// readText reads the text that begins here with a ".
func (r *reader) readText() string {
	var out []byte
	rest := r.text[r.at+1:]
	for !strings.HasPrefix(rest, `"`) {
		b, length := readByte(rest)
		if length == 0 {
			r.giveUp()
		}
		out = append(out, b)
		rest = rest[length:]
	}
	r.at = len(r.text) - len(rest) + 1
	return string(out)
}

// readByte reads the byte with which a text's rest begins, and tells how long it stands there: 0, if there is none.
func readByte(rest string) (byte, int) {
	switch {
	case rest == "":
		return 0, 0
	case rest[0] == '\\':
		return readEscape(rest)
	case ' ' <= rest[0] && rest[0] <= '~':
		return rest[0], 1
	}
	return 0, 0
}

// readEscape reads a byte behind a \, as readByte does.
func readEscape(rest string) (byte, int) {
	if len(rest) < 2 {
		return 0, 0
	}
	switch b := rest[1]; b {
	case 'n':
		return '\n', 2
	case 't':
		return '\t', 2
	case 'r':
		return '\r', 2
	case '"', '\\':
		return b, 2
	case 'x':
		if len(rest) < hexEscape {
			return 0, 0
		}
		if n, err := strconv.ParseUint(rest[2:hexEscape], 16, 8); err == nil {
			return byte(n), hexEscape
		}
	}
	return 0, 0
}

// readSet reads the set that begins here with a [.
func (r *reader) readSet() api.Set {
	rest := r.text[r.at:]
	length := setLength(rest)
	s, err := sets.Read(rest[:length])
	if err != api.OK {
		r.giveUp()
	}
	r.at += length
	return s
}

// setLength tells how long the set is with which a text begins: 0, if it doesn't end.
func setLength(text string) int {
	length := 0
search:
	for i := 0; i < len(text); i++ {
		switch text[i] {
		case '\\':
			i++ // it takes the byte behind it along
		case ']':
			length = i + 1
			break search
		}
	}
	return length
}

// runLength tells how many letters, digits and _ a text begins with.
func runLength(text string) int {
	n := 0
	for n < len(text) && inName(text[n]) {
		n++
	}
	return n
}

// inName tells whether a byte may stand in a name.
func inName(b byte) bool {
	return 'a' <= b && b <= 'z' || 'A' <= b && b <= 'Z' || isDigit(b) || b == '_'
}

// isDigit tells whether a byte is a digit.
func isDigit(b byte) bool {
	return '0' <= b && b <= '9'
}

// isBlank tells whether a byte is a blank.
func isBlank(b byte) bool {
	return b == ' ' || b == '\t' || b == '\n' || b == '\r'
}

// isSign tells whether a byte is a sign.
func isSign(b byte) bool {
	return strings.IndexByte(signs, b) >= 0
}
