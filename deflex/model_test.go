package deflex_test

import (
	"math/rand"
	"regexp"
	"slices"
	"strconv"
	"strings"

	"rosetta/api"
	"rosetta/sets"
)

// The words' forms, as patterns: what the reader is held against.
var (
	gaps    = regexp.MustCompile(`\A(?:[\t\n\r ]|//[^\n]*)*`)
	names   = regexp.MustCompile(`\A[A-Za-z_][A-Za-z0-9_]*`)
	texts   = regexp.MustCompile(`\A"(?:[ !#-\[\]-~]|\\[ntr"\\]|\\x[0-9A-Fa-f]{2})*"`)
	areSets = regexp.MustCompile(`(?s)\A\[(?:[^\\\]]|\\.)*\]`)
	numbers = regexp.MustCompile(`\A(0|[1-9][0-9]{0,8})(?:[^A-Za-z0-9_]|\z)`)
	areSign = regexp.MustCompile(`\A[;.=,(){}>?*+]`)
)

// slowWord reads the word with which a text begins, and tells how long it is: 0, if there is none.
func slowWord(text string) (api.DefWord, int) {
	if m := names.FindString(text); m != "" {
		if len(m) > 64 {
			return api.DefWord{}, 0
		}
		return name(m), len(m)
	}
	if m := texts.FindString(text); m != "" {
		s, err := strconv.Unquote(m)
		if err != nil {
			panic(err)
		}
		return quoted(s), len(m)
	}
	if m := areSets.FindString(text); m != "" {
		s, err := sets.Read(m)
		if err != api.OK {
			return api.DefWord{}, 0
		}
		return set(s), len(m)
	}
	if m := numbers.FindStringSubmatch(text); m != nil {
		n, err := strconv.Atoi(m[1])
		if err != nil {
			panic(err)
		}
		return number(n), len(m[1])
	}
	m := areSign.FindString(text)
	return sign(m), len(m)
}

// slowLex tells what Lex tells of a text that is not too long, and the words ahead of one that can't be read.
func slowLex(text string) (words []api.DefWord, at int, err api.Errno, ahead []api.DefWord) {
	for {
		at += len(gaps.FindString(text[at:]))
		if at == len(text) {
			return ahead, 0, api.OK, ahead
		}
		w, length := slowWord(text[at:])
		if length == 0 {
			return nil, at, api.ErrWord, ahead
		}
		w.At = at
		ahead = append(ahead, w)
		at += length
	}
}

func name(s string) api.DefWord   { return api.DefWord{Kind: api.WordName, Text: s} }
func quoted(s string) api.DefWord { return api.DefWord{Kind: api.WordText, Text: s} }
func set(s api.Set) api.DefWord   { return api.DefWord{Kind: api.WordSet, Set: s} }
func number(n int) api.DefWord    { return api.DefWord{Kind: api.WordNumber, Number: n} }
func sign(s string) api.DefWord   { return api.DefWord{Kind: api.WordSign, Text: s} }

// at tells a word at a place.
func at(place int, w api.DefWord) api.DefWord {
	w.At = place
	return w
}

// told tells how the chapter tells a byte between two ".
func told(b int) string {
	switch {
	case b == 10:
		return `\n`
	case b == 9:
		return `\t`
	case b == 13:
		return `\r`
	case b == '"' || b == '\\':
		return `\` + string(rune(b))
	case b >= 32 && b <= 126:
		return string(rune(b))
	}
	return `\x` + strconv.FormatInt(int64(b+256), 16)[1:]
}

// spelled tells a word that may be, as Print does.
func spelled(w api.DefWord) string {
	switch w.Kind {
	case api.WordText:
		var s strings.Builder
		for _, b := range []byte(w.Text) {
			s.WriteString(told(int(b)))
		}
		return `"` + s.String() + `"`
	case api.WordSet:
		return sets.Text(w.Set)
	case api.WordNumber:
		return strconv.Itoa(w.Number)
	}
	return w.Text
}

// someWord tells a word that may be, by a die.
func someWord(die *rand.Rand) api.DefWord {
	bytes := func(most int, from string) string {
		var out []byte
		for range die.Intn(most + 1) {
			out = append(out, from[die.Intn(len(from))])
		}
		return string(out)
	}
	const letters = "azAZ_qB"
	var all []byte
	for b := range 256 {
		all = append(all, byte(b))
	}
	switch die.Intn(5) {
	case 0:
		return name(bytes(1, letters) + "x" + bytes(62, letters+"0189"))
	case 1:
		return quoted(bytes(12, string(all)))
	case 2:
		s := sets.Of([]byte(bytes(40, string(all)))...)
		if die.Intn(2) == 0 {
			s = sets.Not(s)
		}
		return set(s)
	case 3:
		return number(die.Intn([]int{1, 10, 1000, 1_000_000_000}[die.Intn(4)]))
	}
	return sign(string(signs[die.Intn(len(signs))]))
}

// signs are all of them.
const signs = ";.=,(){}>?*+"

// someWords tells lists of words that may be, by a die that always falls the same.
func someWords(seed int64, lists int) [][]api.DefWord {
	die := rand.New(rand.NewSource(seed))
	var out [][]api.DefWord
	for range lists {
		var l []api.DefWord
		for range die.Intn(9) {
			l = append(l, someWord(die))
		}
		out = append(out, l)
	}
	return slices.Clip(out)
}
