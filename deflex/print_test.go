package deflex_test

import (
	"math"
	"math/rand"
	"slices"
	"strings"
	"testing"

	"rosetta/api"
	"rosetta/deflex"
	"rosetta/sets"
)

func TestPrint(t *testing.T) {
	var eachSign []api.DefWord
	for _, b := range []byte(signs) {
		eachSign = append(eachSign, sign(string(b)))
	}
	for _, x := range []struct {
		words []api.DefWord
		want  string
	}{
		{nil, ""},
		{[]api.DefWord{}, ""},
		{[]api.DefWord{name("a")}, "a"},
		{[]api.DefWord{name("a"), name("_b9")}, "a _b9"},
		{[]api.DefWord{quoted("")}, `""`},
		{[]api.DefWord{quoted("a\"\n\x07\xc8")}, `"a\"\n\x07\xc8"`},
		{[]api.DefWord{set(api.Set{}), set(sets.All()), set(sets.Of('\n', ']'))}, `[] [^] [\n\]]`},
		{[]api.DefWord{number(0), number(10), number(999_999_999)}, "0 10 999999999"},
		{eachSign, "; . = , ( ) { } > ? * +"},
		{[]api.DefWord{name("lexical"), name("L"), sign("="), set(sets.Of(' ')), sign("+"), sign(";")}, `lexical L = [\x20] + ;`},
		{[]api.DefWord{at(-5, name("a")), at(math.MaxInt, sign(";")), at(math.MinInt, number(3))}, "a ; 3"}, // whatever At
		{[]api.DefWord{name(long('a', 64))}, long('a', 64)},
	} {
		given := slices.Clone(x.words)
		if s, e := deflex.Print(x.words...); s != x.want || e != api.OK {
			t.Errorf("P3.2: Print(%v): %q %v, want %q", x.words, s, e, x.want)
		}
		if !slices.Equal(given, x.words) {
			t.Errorf("P3.2: Print changed %v", given)
		}
	}
}

// bad tells words that may not be.
func bad() []api.DefWord {
	out := []api.DefWord{
		{}, at(3, api.DefWord{}), {Kind: 6}, {Kind: -1}, {Kind: math.MaxInt}, {Kind: math.MinInt, Text: "a"}, {Text: "a"}, {Kind: 6, Number: 1},
		name(""), name("1"), name("1a"), name(" a"), name("a "), name("a;"), name("a b"), name("\u00e4"), name("a\x00"), name(long('a', 65)), name(long('a', 1<<21)),
		number(-1), number(1_000_000_000), number(math.MaxInt), number(math.MinInt),
		sign(""), sign(";;"), sign("; "), sign("a"), sign("1"), sign("["), sign("]"), sign("/"), sign("//"), sign("#"), sign("-"), sign("\""), sign("\x00"), sign("\xff"), sign(long(';', 1<<21)),
	}
	for _, w := range []api.DefWord{name("a"), quoted("a"), set(sets.Of('a')), number(1), sign(";")} {
		if w.Kind == api.WordSet || w.Kind == api.WordNumber {
			w.Text = "x"
			out = append(out, w)
			w.Text = ""
		}
		if w.Kind != api.WordSet {
			w.Set[2] = 1
			out = append(out, w)
			w.Set[2] = 0
		}
		if w.Kind != api.WordNumber {
			w.Number = -1
			out = append(out, w)
			w.Number = 1
			out = append(out, w)
		}
	}
	return out
}

func TestPrintRefused(t *testing.T) {
	tooLong := slices.Repeat([]api.DefWord{sign(";")}, api.MaxText)
	for _, w := range bad() {
		for _, l := range [][]api.DefWord{{w}, {name("a"), w}, {w, name("a")}, {name("a"), w, sign(";")}} {
			if s, e := deflex.Print(l...); s != "" || e != api.ErrArg {
				t.Errorf("P3.2: Print of %d words, one %v %d %.80q: %q %v, want ErrArg", len(l), w.Kind, w.Number, w.Text, s, e)
			}
		}
	}
	for _, w := range []api.DefWord{{}, name("1"), number(-1), sign("")} { // ahead of ErrLong, wherever it stands
		for _, l := range [][]api.DefWord{append(tooLong, w), append([]api.DefWord{w}, tooLong...)} {
			if s, e := deflex.Print(l...); s != "" || e != api.ErrArg {
				t.Errorf("P3.2: Print of %d words, one %v: %d bytes %v, want ErrArg", len(l), w, len(s), e)
			}
		}
	}
}

func TestPrintLong(t *testing.T) {
	full := api.MaxText
	names := slices.Repeat([]api.DefWord{name(long('n', 63))}, full/64) // a blank behind each but the last: a byte less than full
	for _, x := range []struct {
		name    string
		fits    []api.DefWord
		tooLong []api.DefWord
	}{
		{"names", append(slices.Clone(names[1:]), name(long('n', 64))), append(slices.Clone(names[2:]), name(long('n', 64)), name(long('n', 64)))},
		{"a text", []api.DefWord{quoted(long('a', full-2))}, []api.DefWord{quoted(long('a', full-1))}},
		{"a text of escapes", []api.DefWord{quoted(long('\n', full/2-1))}, []api.DefWord{quoted(long('\n', full/2-1) + "a")}},
		{"a text of bytes", []api.DefWord{quoted(strings.Repeat("\xff", full/4-1) + "aa")}, []api.DefWord{quoted(strings.Repeat("\xff", full/4))}},
		{"words behind a text", []api.DefWord{quoted(long('a', full-4)), number(1)}, []api.DefWord{quoted(long('a', full-4)), number(10)}},
		{"words ahead of a text", []api.DefWord{set(api.Set{}), quoted(long('a', full-5))}, []api.DefWord{set(api.Set{}), quoted(long('a', full-4))}},
		{"a last sign", append(slices.Repeat([]api.DefWord{sign(";")}, full/2-1), number(10)), append(slices.Repeat([]api.DefWord{sign(";")}, full/2), sign(";"))},
	} {
		s, e := deflex.Print(x.fits...)
		if e != api.OK || len(s) != full {
			t.Errorf("P3.2: Print of %s: %d bytes %v, want %d", x.name, len(s), e, full)
		}
		if l, _, e := deflex.Lex(s); e != api.OK || !deflex.Same(l, x.fits) {
			t.Errorf("P3.3: Lex of Print of %s: %d words %v, want %d", x.name, len(l), e, len(x.fits))
		}
		if s, e := deflex.Print(x.tooLong...); s != "" || e != api.ErrLong {
			t.Errorf("P3.2: Print of %s one byte or more longer: %d bytes %v, want ErrLong", x.name, len(s), e)
		}
	}
	if s, e := deflex.Print(name("a"), quoted(long(0, 8*full)), sign(";")); s != "" || e != api.ErrLong {
		t.Errorf("P3.2: Print of a text of 8 * MaxText bytes: %d bytes %v, want ErrLong", len(s), e)
	}
}

func TestQuote(t *testing.T) {
	for s, want := range map[string]string{
		"":                  `""`,
		"a":                 `"a"`,
		"a\"\n\x07\xc8":     `"a\"\n\x07\xc8"`,
		"\n\t\r":            `"\n\t\r"`,
		`\`:                 `"\\"`,
		`\n`:                `"\\n"`,
		`"a"`:               `"\"a\""`,
		" ~'/[]":            `" ~'/[]"`,
		"\x00\x1f\x7f\x80":  `"\x00\x1f\x7f\x80"`,
		"\xff\xab":          `"\xff\xab"`,
		"\u00e4\u2028":      `"\xc3\xa4\xe2\x80\xa8"`,
		long('a', 100_000):  `"` + long('a', 100_000) + `"`,
		long('\n', 100_000): `"` + strings.Repeat(`\n`, 100_000) + `"`,
	} {
		if got := deflex.Quote(s); got != want {
			t.Errorf("P3.2: Quote(%.80q): %.80s, want %.80s", s, got, want)
		}
	}
	if s := deflex.Quote(long(0, api.MaxText)); len(s) != 4*api.MaxText+2 { // it has no bound of its own
		t.Errorf("P3.2: Quote of MaxText bytes 0: %d bytes", len(s))
	}
}

func TestQuoteEachByte(t *testing.T) {
	for b := range 256 {
		raw := string([]byte{byte(b)})
		s := deflex.Quote("x" + raw)
		if want := `"x` + told(b) + `"`; s != want {
			t.Errorf("P3.2: Quote of x, byte %d: %s, want %s", b, s, want)
		}
		if l, _, e := deflex.Lex(s); e != api.OK || !deflex.Same(l, []api.DefWord{quoted("x" + raw)}) {
			t.Errorf("P3.3: Lex(%s): %v %v", s, l, e)
		}
	}
}

func TestLexOfPrint(t *testing.T) {
	for _, l := range someWords(5, 4000) {
		var parts []string
		for _, w := range l {
			parts = append(parts, spelled(w))
		}
		s, e := deflex.Print(l...)
		if want := strings.Join(parts, " "); s != want || e != api.OK {
			t.Fatalf("P3.2: Print(%v): %q %v, want %q", l, s, e, want)
		}
		back, place, e := deflex.Lex(s)
		if !deflex.Same(back, l) || place != 0 || e != api.OK {
			t.Fatalf("P3.3: Lex(%q): %v %d %v, want %v", s, back, place, e, l)
		}
		if again, e := deflex.Print(back...); again != s || e != api.OK {
			t.Fatalf("P3.3: Print(%v): %q %v, want %q", back, again, e, s)
		}
	}
}

// Words that are read may be, each; so Print takes what Lex tells.
func TestPrintOfLex(t *testing.T) {
	for _, text := range []string{"", `a1="x"[\]-~]2;//x`, "\"a\\x41\\n\" _b // \"", `[zyx][^\x00-\xFF]0"\x0a"` + "\n" + signs} {
		l, _, _ := deflex.Lex(text)
		s, e := deflex.Print(l...)
		back, _, _ := deflex.Lex(s)
		if e != api.OK || !deflex.Same(back, l) {
			t.Errorf("P3.3: Print of Lex(%q): %q %v", text, s, e)
		}
	}
}

// Whatever blanks and comments stand between, ahead and behind: the words are the same, and each begins at its place.
func TestGapsChangePlacesAlone(t *testing.T) {
	between := []string{" ", "\n", "\t", "\r", "  ", "//\n", "//a \"[#\n", " // x\r\n\t", "//\x00\xff\n", "\n// a\n// b\n"}
	die := rand.New(rand.NewSource(6))
	for _, l := range someWords(7, 2000) {
		var text strings.Builder
		var want []api.DefWord
		gap := func() { text.WriteString(between[die.Intn(len(between))]) }
		gap()
		for _, w := range l {
			want = append(want, at(text.Len(), w))
			text.WriteString(spelled(w))
			gap()
		}
		if die.Intn(2) == 0 {
			text.WriteString("// the last")
		}
		checkWords(t, text.String(), want...)
		last := -1
		for i, w := range want {
			behind, _, _ := deflex.Lex(text.String()[w.At:])
			if w.At <= last || !deflex.Same(behind, l[i:]) || behind[0].At != 0 {
				t.Fatalf("P3.3: %q: word %d doesn't begin at %d", text.String(), i, w.At)
			}
			last = w.At
		}
	}
}
