package deflex_test

import (
	"fmt"
	"iter"
	"math/rand"
	"slices"
	"strconv"
	"strings"
	"testing"

	"rosetta/api"
	"rosetta/deflex"
	"rosetta/sets"
)

// The calls' signatures, as the chapter lists them.
var (
	_ func(string) ([]api.DefWord, int, api.Errno) = deflex.Lex
	_ func(string) iter.Seq2[int, api.DefWord]     = deflex.All
	_ func(...api.DefWord) (string, api.Errno)     = deflex.Print
	_ func(string) string                          = deflex.Quote
	_ func([]api.DefWord, []api.DefWord) bool      = deflex.Same
	_ func(string) bool                            = deflex.Name
)

// checkLex holds what Lex and All tell of a text against the words that it has, and those ahead of one that can't be read.
func checkLex(t *testing.T, text string, want []api.DefWord, place int, err api.Errno, ahead []api.DefWord) {
	t.Helper()
	shown := brief(text)
	l, at, e := deflex.Lex(text)
	if !slices.Equal(l, want) || at != place || e != err || e != api.OK && l != nil {
		t.Fatalf("P3.1: Lex(%q): %s %d %v, want %s %d %v", shown, brief(l), at, e, brief(want), place, err)
	}
	var all []api.DefWord
	for i, w := range deflex.All(text) {
		if i != len(all) {
			t.Fatalf("P3.1: All(%q): number %d at %d", shown, i, len(all))
		}
		all = append(all, w)
	}
	if !slices.Equal(all, ahead) {
		t.Fatalf("P3.1: All(%q): %s, want %s", shown, brief(all), brief(ahead))
	}
}

// brief tells a value, cut short.
func brief(v any) string {
	s := fmt.Sprint(v)
	return s[:min(len(s), 300)]
}

// checkWords holds a text's words against those wanted.
func checkWords(t *testing.T, text string, want ...api.DefWord) {
	t.Helper()
	checkLex(t, text, want, 0, api.OK, want)
}

// checkUnread asks that the word at a place can't be read, behind the words ahead.
func checkUnread(t *testing.T, text string, place int, ahead ...api.DefWord) {
	t.Helper()
	checkLex(t, text, nil, place, api.ErrWord, ahead)
}

// checkAsSlow holds what is told of a text against the patterns.
func checkAsSlow(t *testing.T, text string) {
	t.Helper()
	want, place, err, ahead := slowLex(text)
	checkLex(t, text, want, place, err, ahead)
}

func read(text string) api.Set {
	s, err := sets.Read(text)
	if err != api.OK {
		panic(text)
	}
	return s
}

func TestLexExamples(t *testing.T) {
	checkWords(t, `a1="x"[\]-~]2;//x`, at(0, name("a1")), at(2, sign("=")), at(3, quoted("x")), at(6, set(read(`[\]-~]`))), at(12, number(2)), at(13, sign(";")))
	checkWords(t, `"a\x41\n" _b // "`, at(0, quoted("aA\n")), at(10, name("_b")))
	for _, text := range []string{"12a", "01", `"a`, "[a", `"\q"`, "[z-a]", "#", "/", strings.Repeat("a", 65)} {
		checkUnread(t, text, 0)
		checkUnread(t, " ; "+text, 3, at(1, sign(";")))
		checkUnread(t, "x//"+text+"\n"+text+"\n;", len(text)+4, name("x"))
	}
}

func TestLexEmpty(t *testing.T) {
	for _, text := range []string{"", " ", "\t\n\r ", "//", "// ", "//\n", "///", "////", "// a\n// b", "\n\n//\"\n\r//[\n", "//\x00\xff\xc3\xa4"} {
		checkWords(t, text)
	}
}

func TestLexNames(t *testing.T) {
	long := strings.Repeat("aZ_9", 16) // 64 bytes
	for _, s := range []string{"a", "z", "A", "Z", "_", "__", "_0", "a0", "module", "Z9_z", long, "_" + long[1:]} {
		checkWords(t, s, name(s))
		checkWords(t, " "+s+";"+s, at(1, name(s)), at(len(s)+1, sign(";")), at(len(s)+2, name(s)))
	}
	checkUnread(t, long+"a", 0)
	checkUnread(t, long+"0", 0)
	checkUnread(t, long+"_ ; #", 0)
	checkUnread(t, "a "+strings.Repeat("b", 100_000), 2, name("a"))
	checkWords(t, long+" a", name(long), at(65, name("a")))
}

func TestLexNumbers(t *testing.T) {
	for text, n := range map[string]int{"0": 0, "1": 1, "9": 9, "10": 10, "100": 100, "123456789": 123456789, "999999999": 999999999, "100000000": 100000000} {
		checkWords(t, text, number(n))
		checkWords(t, text+`"`+text+`"`+text+"[]"+text+"//"+text, at(0, number(n)), at(len(text), quoted(text)), at(2*len(text)+2, number(n)), at(3*len(text)+2, set(api.Set{})), at(3*len(text)+4, number(n)))
	}
	for _, text := range []string{"00", "01", "0_", "0a", "0x1", "007", "1234567890", "1000000000", "0000000000", "9a", "9Z", "9_", "999999999a", "999999999_", "1_000", "1e5", "0b1", strings.Repeat("9", 100), strings.Repeat("1", 5) + strings.Repeat("a", 60)} {
		checkUnread(t, text, 0)
		checkUnread(t, "+"+text, 1, sign("+"))
	}
	checkUnread(t, "-1", 0)
	checkUnread(t, "1-1", 1, number(1))
	checkWords(t, "+1 0.0", sign("+"), at(1, number(1)), at(3, number(0)), at(4, sign(".")), at(5, number(0)))
}

func TestLexTexts(t *testing.T) {
	for text, want := range map[string]string{
		`""`:                           "",
		`"a"`:                          "a",
		`" ~!#[]'/"`:                   " ~!#[]'/",
		`"//"`:                         "//", // no comment
		`"\n\t\r\"\\"`:                 "\n\t\r\"\\",
		`"\\n"`:                        `\n`,
		`"\\\n"`:                       "\\\n",
		`"\\\""`:                       `\"`,
		`"\x00\xff\xFF\xaB\xBa"`:       "\x00\xff\xff\xab\xba",
		`"\x0a\x0d\x09\x22\x5c"`:       "\n\r\t\"\\",
		`"\x410"`:                      "A0", // two digits, no more
		`"\xc3\xa4"`:                   "\u00e4",
		`"ntrx"`:                       "ntrx",
		`"` + long('a', 100_000) + `"`: long('a', 100_000),
	} {
		checkWords(t, text, quoted(want))
		checkWords(t, text+text, quoted(want), at(len(text), quoted(want)))
	}
	for _, text := range []string{
		`"`, `"a`, `"\`, `"\"`, `"\n`, `"\\\"`, "\"a\n\"", "\"\t\"", "\"\r\"", "\"\x00\"", "\"\x1f\"", "\"\x7f\"", "\"\x80\"", "\"\u00e4\"",
		`"\x"`, `"\x4"`, `"\x4`, `"\x41`, `"\xg0"`, `"\x0g"`, `"\x 1"`, `"\x+1"`, `"\x-1"`, `"\x_1"`, `"\x1_"`, `"\x1 "`, `"\X41"`, `"\0"`, `"\N"`, `"\ "`, `"\'"`, `"\a"`, "\"\\\n\"", "\"\\",
	} {
		checkUnread(t, text, 0)
		checkUnread(t, `"x"`+text, 3, quoted("x"))
	}
}

func long(b byte, n int) string { return strings.Repeat(string(b), n) }

// Each byte between two ", as itself, behind a \, and as \x with digits of either case.
func TestLexTextEachByte(t *testing.T) {
	escapes := map[int]int{'n': 10, 't': 9, 'r': 13, '"': '"', '\\': '\\'}
	for b := range 256 {
		raw := string([]byte{byte(b)})
		if text := `"a` + raw + `"`; b >= 32 && b <= 126 && b != '"' && b != '\\' {
			checkWords(t, text, quoted("a"+raw))
		} else if b == '"' {
			checkUnread(t, text, 3, quoted("a"))
		} else {
			checkUnread(t, text, 0)
		}
		if c, is := escapes[b]; is {
			checkWords(t, `"\`+raw+`"`, quoted(string([]byte{byte(c)})))
		} else {
			checkUnread(t, `"\`+raw+`"`, 0)
		}
		hex := strconv.FormatInt(int64(b+256), 16)[1:]
		for _, digits := range []string{hex, strings.ToUpper(hex), strings.ToUpper(hex[:1]) + hex[1:], hex[:1] + strings.ToUpper(hex[1:])} {
			checkWords(t, `"\x`+digits+`"`, quoted(raw))
		}
	}
}

func TestLexSets(t *testing.T) {
	for _, text := range []string{
		"[]", "[^]", "[a-z]", "[^a]", "[ -~]", "[//]", `["]`, `[\]]`, `[\\]`, `[\\\]]`, `[\]\\]`, `[\[\]]`, `[\]-~]`, `[\x5d\x5D]`, `[\t\n\r]`, `[;0a"]`, `[^\]]`, `[^\\]`,
	} {
		checkWords(t, text, set(read(text)))
		checkWords(t, "a"+text+text+"b", name("a"), at(1, set(read(text))), at(1+len(text), set(read(text))), at(1+2*len(text), name("b")))
	}
	for _, text := range []string{
		"[", "[a", "[^", `[\`, `[\]`, `[\\\]`, `[a\]`, `[\]\]`, "[z-a]", "[a-]", "[-a]", "[[]", "[a[]", "[^^]", `[\q]`, `[\x4]`, "[\n]", "[\t]", "[\x7f]", "[\xff]", "[\u00e4]", `[\"]`, "[" + long('a', 100_000), "[" + long('\\', 100_001),
	} {
		checkUnread(t, text, 0)
		checkUnread(t, "[]"+text, 2, set(api.Set{}))
	}
	checkUnread(t, "[]]", 2, set(api.Set{})) // the first ] ends it
	checkUnread(t, `[\\]]`, 4, set(sets.Of('\\')))
	checkUnread(t, `[\]]]`, 4, set(sets.Of(']')))
	checkWords(t, `[\\];[\\]`, set(sets.Of('\\')), at(4, sign(";")), at(5, set(sets.Of('\\'))))
	checkUnread(t, `[a\][b]`, 0) // up to b]: a [ has no place in it
}

func TestLexSigns(t *testing.T) {
	var want []api.DefWord
	for i, b := range []byte(signs) {
		want = append(want, at(i, sign(string(b))))
	}
	checkWords(t, signs, want...)
}

// Each byte as a text, behind each kind of word, and behind a / and a \.
func TestLexEachByte(t *testing.T) {
	for b := range 256 {
		raw := string([]byte{byte(b)})
		for _, ahead := range []string{"", "a", "_", "7", "0", "123456789", `"x"`, "[x]", ";", "/", "//", "//\n", `"`, "[", `"\`, `[\`, `"\x4`, strings.Repeat("n", 64)} {
			for _, behind := range []string{"", "a", "0", " ", `"`, "]"} {
				checkAsSlow(t, ahead+raw+behind)
			}
		}
		_, place, err := deflex.Lex(raw)
		begins := strings.Contains("\t\n\r 0123456789_"+signs, raw) || b|32 >= 'a' && b|32 <= 'z'
		if begins != (err == api.OK) || place != 0 || !begins && err != api.ErrWord {
			t.Errorf("P3.1: Lex of byte %d: %d %v", b, place, err)
		}
	}
}

func TestLexComments(t *testing.T) {
	checkWords(t, "a//b\nc", name("a"), at(5, name("c")))
	checkWords(t, "a//b\rc", name("a")) // 13 ends no comment
	checkWords(t, "a//b\r\nc", name("a"), at(6, name("c")))
	checkWords(t, "a//\\\nc", name("a"), at(5, name("c"))) // nor is a line end taken along
	checkWords(t, "//#\x00\xff\"[\na", at(8, name("a")))
	checkWords(t, "1//\n2//", number(1), at(4, number(2)))
	checkWords(t, `"x"//`+"\n[y]//\n;//", quoted("x"), at(6, set(sets.Of('y'))), at(12, sign(";")))
	checkUnread(t, "a/", 1, name("a"))
	checkUnread(t, "a/b", 1, name("a"))
	checkUnread(t, "a/ /b", 1, name("a"))
	checkUnread(t, "a/\n/b", 1, name("a"))
	checkUnread(t, "a/* b */", 1, name("a"))
	checkUnread(t, "//\n/", 3)
}

func TestLexLong(t *testing.T) {
	full := api.MaxText
	half := full / 2
	for _, x := range []struct {
		text string
		want []api.DefWord
	}{
		{long(' ', full), nil},
		{"//" + long('#', full-2), nil},
		{long(' ', full-1) + "a", []api.DefWord{at(full-1, name("a"))}},
		{`"` + long('a', full-2) + `"`, []api.DefWord{quoted(long('a', full-2))}},
		{"[" + long('a', full-2) + "]", []api.DefWord{set(sets.Of('a'))}},
		{"x" + long('\n', full-1), []api.DefWord{name("x")}},
	} {
		checkWords(t, x.text, x.want...)
		checkLex(t, x.text+" ", nil, 0, api.ErrLong, nil)
		checkLex(t, " "+x.text, nil, 0, api.ErrLong, nil)
	}
	checkUnread(t, long(' ', full-1)+"#", full-1)
	checkLex(t, "#"+long(' ', full), nil, 0, api.ErrLong, nil) // ahead of what can't be read
	l, place, err := deflex.Lex(strings.Repeat("; ", half))
	if len(l) != half || place != 0 || err != api.OK || l[half-1] != at(full-2, sign(";")) {
		t.Errorf("P3.1: Lex of %d signs: %d words, %d %v", half, len(l), place, err)
	}
	if l, place, err := deflex.Lex(strings.Repeat(";", full-1) + "#"); l != nil || place != full-1 || err != api.ErrWord {
		t.Errorf("P3.1: Lex of %d signs and a #: %d words, %d %v", full-1, len(l), place, err)
	}
}

// All texts of up to four of these pieces.
func TestLexAllSmall(t *testing.T) {
	pieces := []string{"a", "0", "7", "_", `"`, `\`, "[", "]", "/", "\n", " ", "x", ";", "#", "-", "^", "\xff"}
	var grow func(text string, left int)
	grow = func(text string, left int) {
		checkAsSlow(t, text)
		if left == 0 {
			return
		}
		for _, p := range pieces {
			grow(text+p, left-1)
		}
	}
	grow("", 4)
}

func TestLexAsSlow(t *testing.T) {
	pieces := []string{"a", "B_9", "0", "12", " ", "\t", "\n", "\r", "//", "// c\n", `"`, `"t"`, `"\n"`, `\`, `"\x4F"`, `"\xg"`, "[", "]", "[a-z]", `[\]]`, "[z-a]", "[^]", ";", ".", "=", "(", "}", ">", "*", "#", "/", "\x00", "\xff", "-"}
	die := rand.New(rand.NewSource(3))
	for range 60_000 {
		text := ""
		for range die.Intn(12) {
			text += pieces[die.Intn(len(pieces))]
		}
		checkAsSlow(t, text)
	}
}

// A going over that is left early, then others over the same: from the beginning each.
func TestAllLeftEarly(t *testing.T) {
	for _, text := range []string{"", "a", `a 1 "x" [y] ;`, "a b #", "#", "a //\n b \" c"} {
		all := deflex.All(text)
		_, _, _, want := slowLex(text)
		for leave := range len(want) + 2 {
			var got []api.DefWord
			for i, w := range all {
				if i == leave {
					break
				}
				if i != len(got) {
					t.Fatalf("P3.1: All(%q): number %d at %d", text, i, len(got))
				}
				got = append(got, w)
			}
			if !slices.Equal(got, want[:min(leave, len(want))]) {
				t.Fatalf("P3.1: All(%q) left at %d: %v, want %v", text, leave, got, want)
			}
		}
	}
	n := 0
	words := deflex.All("a b")
	for range words {
		for range words { // two at once know nothing of each other
			n++
		}
	}
	if n != 4 {
		t.Errorf("P3.1: two goings over at once: %d words", n)
	}
}

func TestLexIsNewMemory(t *testing.T) {
	const text = `a [b] "c"`
	l, _, _ := deflex.Lex(text)
	for i := range l {
		l[i] = api.DefWord{}
	}
	checkAsSlow(t, text)
}

func TestName(t *testing.T) {
	for _, s := range []string{"a", "_", "A", "_a1", "z9", "a_", "module", strings.Repeat("a", 64), strings.Repeat("_", 64)} {
		if !deflex.Name(s) {
			t.Errorf("P3.2: Name(%q) is false", s)
		}
	}
	for _, s := range []string{"", "1", "1a", "0", " a", "a ", "a b", "a//", "a//x\n", "a;", ";", `"a"`, "[a]", "a-b", "a.b", "\u00e4", "a\u00e4", "a\xff", "a\x00", "a\n", strings.Repeat("a", 65), strings.Repeat("a", 1<<21)} {
		if deflex.Name(s) {
			t.Errorf("P3.2: Name(%.80q) is true", s)
		}
	}
	for b := range 256 {
		letter := b|32 >= 'a' && b|32 <= 'z' || b == '_'
		raw := string([]byte{byte(b)})
		if deflex.Name(raw) != letter || deflex.Name("x"+raw) != (letter || b >= '0' && b <= '9') {
			t.Errorf("P3.2: Name of byte %d: %v, behind x: %v", b, deflex.Name(raw), deflex.Name("x"+raw))
		}
	}
}

func TestSame(t *testing.T) {
	l := []api.DefWord{name("a"), quoted("a"), set(sets.Of('a')), number(1), sign(";")}
	moved := slices.Clone(l)
	for i := range moved {
		moved[i].At = 7*i - 9
	}
	given := slices.Clone(moved)
	if !deflex.Same(l, l) || !deflex.Same(l, moved) || !deflex.Same(moved, l) || !deflex.Same(nil, []api.DefWord{}) || !deflex.Same(nil, nil) {
		t.Error("P3.2: Same is false of the same words")
	}
	if !slices.Equal(given, moved) {
		t.Errorf("P3.2: Same changed %v", moved)
	}
	if deflex.Same(l, nil) || deflex.Same(nil, l) || deflex.Same(l, l[1:]) || deflex.Same(l[:4], l) || deflex.Same(l[:1], l[1:2]) {
		t.Error("P3.2: Same is true of others")
	}
	for i := range l {
		for _, change := range []func(*api.DefWord){
			func(w *api.DefWord) { w.Kind++ },
			func(w *api.DefWord) { w.Text += " " },
			func(w *api.DefWord) { w.Set[3] ^= 1 << 63 },
			func(w *api.DefWord) { w.Number-- },
		} {
			other := slices.Clone(l)
			change(&other[i])
			if deflex.Same(l, other) || deflex.Same(other, l) {
				t.Errorf("P3.2: Same is true of %v and %v", l[i], other[i])
			}
		}
	}
	swapped := slices.Clone(l)
	swapped[0], swapped[1] = swapped[1], swapped[0]
	if deflex.Same(l, swapped) {
		t.Error("P3.2: Same is true of another order")
	}
}
