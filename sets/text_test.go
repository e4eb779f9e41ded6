package sets_test

import (
	"strconv"
	"strings"
	"testing"

	"rosetta/api"
	"rosetta/sets"
)

// told tells how the chapter tells a byte.
func told(b int) string {
	switch {
	case strings.Contains(`\[]-^`, string(rune(b))):
		return `\` + string(rune(b))
	case b == 9:
		return `\t`
	case b == 10:
		return `\n`
	case b == 13:
		return `\r`
	case b >= 33 && b <= 126:
		return string(rune(b))
	}
	return `\x` + strconv.FormatInt(int64(b+256), 16)[1:]
}

func TestTextExamples(t *testing.T) {
	for _, x := range []struct {
		s    api.Set
		want string
	}{
		{api.Set{}, "[]"},
		{sets.All(), "[^]"},
		{sets.Union(span('a', 'z'), sets.Of('\n')), `[\na-z]`},
		{sets.Not(sets.Of('"')), `[^"]`},
		{sets.Of('a'), "[a]"},
		{sets.Of('b', 'a'), "[ab]"},
		{span('a', 'c'), "[a-c]"},
		{sets.Of('a', '-', ']', 200), `[\-\]a\xc8]`},
		{sets.Of('\\', '[', ']', '-', '^'), `[\-\[-\^]`}, // [ \ ] ^ are a range
		{sets.Of('\\', ']'), `[\\\]]`},
		{sets.Of(9, 10, 13, 32), `[\t\n\r\x20]`},
		{span(8, 11), `[\x08-\x0b]`},
		{span(9, 11), `[\t-\x0b]`},
		{span(126, 127), `[~\x7f]`},
		{sets.Of(0, 255), `[\x00\xff]`},
		{span('0', '9'), "[0-9]"},
		{span(0, 127), `[\x00-\x7f]`},                                            // 128 bytes
		{span(0, 128), `[^\x81-\xff]`},                                           // 129
		{span(128, 255), `[\x80-\xff]`},                                          // 128
		{span(127, 255), `[^\x00-~]`},                                            // 129
		{where(func(b int) bool { return b < 127 || b == 200 }), `[\x00-~\xc8]`}, // 128
		{where(func(b int) bool { return b < 128 || b == 200 }), `[^\x80-\xc7\xc9-\xff]`},              // 129
		{where(func(b int) bool { return b != '^' && b != 'a' && b != 'b' && b != 0 }), `[^\x00\^ab]`}, // the others' escapes
	} {
		if s := sets.Text(x.s); s != x.want {
			t.Errorf("P2.5: Text(%v): %s, want %s", x.s, s, x.want)
		}
	}
}

func TestTextEachByte(t *testing.T) {
	for b := range 256 {
		if s, want := sets.Text(span(b, b)), "["+told(b)+"]"; s != want {
			t.Errorf("P2.5: Text of %d: %s, want %s", b, s, want)
		}
		if s, want := sets.Text(where(func(c int) bool { return c != b })), "[^"+told(b)+"]"; s != want {
			t.Errorf("P2.5: Text of all but %d: %s, want %s", b, s, want)
		}
	}
}

func TestTextEachRange(t *testing.T) {
	for from := range 256 {
		for to := from; to < 256; to++ {
			want := "[" + inner(from, to) + "]"
			if to-from+1 > 128 {
				want = "[^" + inner(0, from-1) + inner(to+1, 255) + "]"
			}
			if s := sets.Text(span(from, to)); s != want {
				t.Fatalf("P2.5: Text of %d to %d: %s, want %s", from, to, s, want)
			}
		}
	}
}

// inner tells how a range stands in a set's text; one that ends ahead of its begin, not at all.
func inner(from, to int) string {
	switch to - from {
	case -1:
		return ""
	case 0:
		return told(from)
	case 1:
		return told(from) + told(to)
	}
	return told(from) + "-" + told(to)
}

func TestRead(t *testing.T) {
	for _, x := range []struct {
		text string
		want api.Set
	}{
		{"[]", api.Set{}},
		{"[^]", sets.All()},
		{"[a]", sets.Of('a')},
		{"[^a]", sets.Not(sets.Of('a'))},
		{"[^ -~]", sets.Not(span(32, 126))},
		{"[ ]", sets.Of(' ')},
		{"[~]", sets.Of('~')},
		{"[zaz]", sets.Of('a', 'z')},  // in any order, twice
		{"[c-ea-db]", span('a', 'e')}, // they overlap
		{"[a-cd-f]", span('a', 'f')},  // they touch
		{"[a-a]", sets.Of('a')},       // not below it
		{"[a-b]", sets.Of('a', 'b')},  // as it is not told
		{"[a-bc-d]", span('a', 'd')},
		{`[\-a]`, sets.Of('-', 'a')},
		{`[a\-c]`, sets.Of('a', '-', 'c')}, // no range
		{`[+-\-]`, span('+', '-')},
		{`[\--/]`, span('-', '/')}, // from a - on
		{`[\[-\]]`, span('[', ']')},
		{`[\^]`, sets.Of('^')},
		{`[^\^]`, sets.Not(sets.Of('^'))},
		{`[\\]`, sets.Of('\\')},
		{`[\]]`, sets.Of(']')},
		{`[\t\n\r]`, sets.Of(9, 10, 13)},
		{`[\t-\r]`, span(9, 13)},
		{`[\x00-\xff]`, sets.All()},
		{`[^\x00-\xFF]`, api.Set{}},
		{`[\xab\xCD\xeF]`, sets.Of(0xab, 0xcd, 0xef)},
		{`[\x61-c]`, span('a', 'c')}, // an escape of what stands as itself, too
		{`[\x0a\x5D]`, sets.Of(10, ']')},
		{`[\x410]`, sets.Of('A', '0')}, // two digits, no more
		{`[x-z\x41]`, sets.Union(span('x', 'z'), sets.Of('A'))},
		{`[ntrx]`, sets.Of('n', 't', 'r', 'x')},
	} {
		if s, e := sets.Read(x.text); s != x.want || e != api.OK {
			t.Errorf("P2.5: Read(%s): %s %v, want %s", x.text, sets.Text(s), e, sets.Text(x.want))
		}
	}
}

func TestReadRefused(t *testing.T) {
	for _, text := range []string{
		"", "[", "]", "a", "^", "[^", "[a", "[^a", "a]", " []", "[] ", "[]]", "[[]", "[a]b", "[a][b]", "[]\n",
		"[^^]", "[a^]", "[a-c^]", "[^a^]", "[-]", "[-a]", "[a-]", "[^-a]", "[a--]", "[a-b-c]", "[--/]", "[a-", "[a-^]", "[a-[]",
		`[\x00-]`, `[\x00-\q]`, `[\x00-^]`, `[\x00--]`, `[\x00-`,
		"[z-a]", "[b-a]", `[\xff-\x00]`, "[a-cz-a]",
		`[\]`, `[\`, `[\q]`, `[\a]`, `[\ ]`, `[\T]`, `[\N]`, `[\"]`, `[\/]`, `[\0]`,
		`[\x]`, `[\xA]`, `[\xg0]`, `[\x0g]`, `[\x 1]`, `[\x+1]`, `[\x-1]`, `[\x_1]`, `[\x1_]`, `[\X41]`, `[\x4`, `[\x41`, `[a-\x4]`, `[a-\q]`, `[a-\`,
		"[\x00]", "[\t]", "[\n]", "[\r]", "[\x1f]", "[\x7f]", "[\x80]", "[\xff]", "[\xc3\xa4]", "[a-\x7f]", "[\\\xff]",
		strings.Repeat("[", 1000), "[" + strings.Repeat("a", 1<<16), strings.Repeat(`\`, 1001),
	} {
		if s, e := sets.Read(text); s != (api.Set{}) || e != api.ErrSet {
			t.Errorf("P2.5: Read(%q): %s %v, want ErrSet", text, sets.Text(s), e)
		}
	}
}

// Each byte by itself, as an escape, and with digits of either case.
func TestReadEachByte(t *testing.T) {
	for b := range 256 {
		raw := string([]byte{byte(b)})
		stands := b >= 32 && b <= 126 && !strings.Contains(`\[]-^`, raw)
		if s, e := sets.Read("[a" + raw + "]"); stands && (s != sets.Of('a', byte(b)) || e != api.OK) || !stands && (s != (api.Set{}) || e != api.ErrSet) {
			t.Errorf("P2.5: Read of a, byte %d: %v %v", b, s, e)
		}
		want, err := escaped(b)
		if s, e := sets.Read(`[\` + raw + "]"); s != want || e != err {
			t.Errorf(`P2.5: Read of \ and byte %d: %v %v, want %v %v`, b, s, e, want, err)
		}
		hex := strconv.FormatInt(int64(b+256), 16)[1:]
		for _, digits := range []string{hex, strings.ToUpper(hex), strings.ToUpper(hex[:1]) + hex[1:]} {
			if s, e := sets.Read(`[\x` + digits + "]"); s != span(b, b) || e != api.OK {
				t.Errorf(`P2.5: Read of \x%s: %v %v`, digits, s, e)
			}
		}
	}
}

// escaped tells what a \ ahead makes of a byte.
func escaped(b int) (api.Set, api.Errno) {
	switch b {
	case 't':
		return sets.Of(9), api.OK
	case 'n':
		return sets.Of(10), api.OK
	case 'r':
		return sets.Of(13), api.OK
	case '\\', '[', ']', '-', '^':
		return sets.Of(byte(b)), api.OK
	}
	return api.Set{}, api.ErrSet
}

// The chapter names no bound of its own for a set's text.
func TestReadLongText(t *testing.T) {
	text := "[^" + strings.Repeat(`a-z\xff`, api.MaxText/4) + "]"
	if s, e := sets.Read(text); s != sets.Not(sets.Union(span('a', 'z'), sets.Of(255))) || e != api.OK {
		t.Errorf("P2.5: Read of %d bytes: %v %v", len(text), s, e)
	}
}

func TestReadOfText(t *testing.T) {
	for _, s := range samples() {
		if back, e := sets.Read(sets.Text(s)); back != s || e != api.OK {
			t.Errorf("P2.6: Read(%s): %v %v, want %v", sets.Text(s), back, e, s)
		}
	}
	for from := range 256 {
		for to := from; to < 256; to++ {
			s := span(from, to)
			if back, e := sets.Read(sets.Text(s)); back != s || e != api.OK {
				t.Fatalf("P2.6: Read(%s): %v %v, want %v", sets.Text(s), back, e, s)
			}
		}
	}
}

func TestTextOfRead(t *testing.T) {
	for text, want := range map[string]string{
		"[zyxa]":                "[ax-z]",
		"[a-b]":                 "[ab]",
		`[\x61\x0A ]`:           `[\n\x20a]`,
		`[\x00-\xFF]`:           "[^]",
		`[^\x00-\xff]`:          "[]",
		`[^a-c]`:                "[^a-c]",
		`[^\x00-\x60\x7f-\xff]`: "[a-~]",
		`[\x00-\x7e\x80-\xff]`:  `[^\x7f]`,
	} {
		s, e := sets.Read(text)
		if got := sets.Text(s); got != want || e != api.OK {
			t.Errorf("P2.6: Text of Read(%s): %s %v, want %s", text, got, e, want)
		}
		again, e := sets.Read(want)
		if again != s || e != api.OK || sets.Text(again) != want {
			t.Errorf("P2.6: Read(%s): %v %v, want %v", want, again, e, s)
		}
	}
}
