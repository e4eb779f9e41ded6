package deftext_test

import (
	"regexp"
	"slices"
	"strings"

	"rosetta/api"
	"rosetta/deflex"
)

// The chapter's grammar, word for word: what the reader is held against.
const grammar = `
module   = "module" name ";" { import | "start" name ";" | "layout" name ";" | "comment" name ";" | lexical | syntax | restrict | priority | scope }
import   = "import" name [ "(" pair { "," pair } ")" ] ";"
pair     = name "=" name
lexical  = "lexical" name "=" { symbol } [ "(" "reject" ")" ] ";"
syntax   = "syntax" name [ "." name ] "=" { symbol } [ "(" mark { "," mark } ")" ] [ "as" item { item } ] ";"
symbol   = thing [ "?" | "*" | "+" ] | "{" thing text "}" ( "*" | "+" )
thing    = name | text | set
mark     = "prefer" | "avoid" | "bracket" | "left" | "right" | "non"
item     = text | number | "soft" | "line" | "in" | "out"
restrict = "restrict" ( name | text ) "not" set ";"
priority = "priority" group { ">" group } ";"
group    = [ "left" | "right" | "non" ] cons { cons }
cons     = name "." name
scope    = "scope" cons "{" { ( "declare" | "use" ) [ "own" ] number name ";" | "inner" number { number } ";" } "}"
`

// reservedNames tells the names that stand in quotes in the grammar.
func reservedNames() []string {
	var out []string
	for _, m := range regexp.MustCompile(`"([a-z]+)"`).FindAllStringSubmatch(grammar, -1) {
		out = append(out, m[1])
	}
	slices.Sort(out)
	return slices.Compact(out)
}

// model tries the grammar on words, in all ways.
type model struct {
	rules    map[string][]string // each rule's parts
	reserved map[string]bool
	words    []api.DefWord
	furthest int // the last place that some way came to
}

func newModel() *model {
	m := &model{rules: map[string][]string{}, reserved: map[string]bool{}}
	for _, line := range strings.Split(strings.TrimSpace(grammar), "\n") {
		name, right, _ := strings.Cut(line, " = ")
		m.rules[strings.TrimSpace(name)] = strings.Fields(right)
	}
	for _, name := range reservedNames() {
		m.reserved[name] = true
	}
	return m
}

// places is where ways stand, rising.
type places = []int

// alternatives tries parts, up to what closes them, from each place on: it tells the places behind, and what is left of the parts.
func (m *model) alternatives(parts []string, from places) (behind places, left []string) {
	at := from
	for len(parts) > 0 {
		switch part := parts[0]; part {
		case ")", "]", "}":
			return union(behind, at), parts[1:]
		case "|":
			behind, at, parts = union(behind, at), from, parts[1:]
		case "(":
			at, parts = m.alternatives(parts[1:], at)
		case "[":
			var inside places
			inside, parts = m.alternatives(parts[1:], at)
			at = union(at, inside)
		case "{":
			inside := parts[1:]
			for found := at; len(found) > 0; {
				found, parts = m.alternatives(inside, found)
				found = slices.DeleteFunc(found, func(p int) bool { return slices.Contains(at, p) })
				at = union(at, found)
			}
			if len(at) == 0 {
				_, parts = m.alternatives(inside, nil)
			}
		default:
			at, parts = m.part(part, at), parts[1:]
		}
	}
	return union(behind, at), nil
}

// part tries a part that stands for a word, or a rule.
func (m *model) part(part string, from places) places {
	if rule := m.rules[part]; rule != nil {
		behind, _ := m.alternatives(rule, from)
		return behind
	}
	var out places
	for _, p := range from {
		m.furthest = max(m.furthest, p)
		if p < len(m.words) && m.matches(part, m.words[p]) {
			out = append(out, p+1)
		}
	}
	return out
}

// matches tells whether a word is what a part asks for.
func (m *model) matches(part string, w api.DefWord) bool {
	switch part {
	case "name":
		return w.Kind == api.WordName && !m.reserved[w.Text]
	case "text":
		return w.Kind == api.WordText
	case "set":
		return w.Kind == api.WordSet
	case "number":
		return w.Kind == api.WordNumber
	}
	return (w.Kind == api.WordName || w.Kind == api.WordSign) && part == `"`+w.Text+`"`
}

func union(a, b places) places {
	out := append(slices.Clone(a), b...)
	slices.Sort(out)
	return slices.Compact(out)
}

// slowFault tells a text's error and its place, by the grammar, and by the words gone over once more for what else it asks.
func (m *model) slowFault(text string) (int, api.Errno) {
	list, end, err := deflex.Lex(text)
	if err == api.ErrLong {
		return 0, err
	}
	if err == api.OK {
		end, err = len(text), api.ErrDefine
	} else {
		for _, w := range deflex.All(text) {
			list = append(list, w)
		}
	}
	m.words, m.furthest = list, 0
	whole := m.part("module", places{0})
	broken := m.furthest
	if err == api.ErrDefine && slices.Contains(whole, len(list)) {
		broken = len(list) + 1
	}
	if i, e := firstBeyond(list[:min(broken, len(list))]); e != api.OK {
		return list[i].At, e
	}
	switch {
	case broken > len(list):
		return 0, api.OK
	case broken == len(list):
		return end, err
	}
	return list[broken].At, api.ErrDefine
}

// counts is how often things stood that stand a number of times at most.
type counts map[string]int

// firstBeyond tells the first word, of some that begin a module, that goes beyond what the grammar says: by bounds, or since it stood already.
func firstBeyond(list []api.DefWord) (int, api.Errno) {
	inModule, inPart := counts{}, counts{}
	part := ""
	for i, w := range list {
		word := ""
		if w.Kind == api.WordName || w.Kind == api.WordSign {
			word = w.Text
		}
		before := ""
		if i > 0 {
			before = list[i-1].Text
		}
		switch word {
		case "import", "start", "layout", "comment", "lexical", "syntax", "restrict", "priority", "scope":
			part, inPart = word, counts{}
			if e := inModule.startPart(word); e != api.OK {
				return i, e
			}
			continue
		}
		if e := inPart.word(part, word, before, w); e != api.OK {
			return i, e
		}
		if w.Kind == api.WordText && (len(w.Text) == 0 || len(w.Text) > 30) || w.Kind == api.WordNumber && (w.Number == 0 || w.Number > 30) {
			return i, api.ErrRange
		}
	}
	return 0, api.OK
}

// startPart counts a part of a module.
func (c counts) startPart(word string) api.Errno {
	switch word {
	case "start", "layout":
		return c.one(word, 1, api.ErrDefine)
	case "import":
		return c.one(word, 64, api.ErrMany)
	case "lexical", "syntax":
		word = "production"
	}
	return c.one(word, 1000, api.ErrMany)
}

// one counts something.
func (c counts) one(what string, most int, e api.Errno) api.Errno {
	if c[what]++; c[what] > most {
		return e
	}
	return api.OK
}

// word counts what a word of a part begins.
func (c counts) word(part, word, before string, w api.DefWord) api.Errno {
	switch {
	case part == "import" && (before == "(" || before == ","):
		return c.one("pair", 1000, api.ErrMany)
	case part == "priority" && word != ">":
		if before == "priority" || before == ">" {
			c["cons"] = 0
			if e := c.one("group", 1000, api.ErrMany); e != api.OK {
				return e
			}
		}
		if w.Kind == api.WordName && before != "." && word != "left" && word != "right" && word != "non" {
			return c.one("cons", 1000, api.ErrMany)
		}
	case part == "scope" && (word == "declare" || word == "use"):
		c["inner"] = 0
		return c.one(word, 1000, api.ErrMany)
	case part == "scope" && word == "inner":
		c["inner"] = 1
	case part == "scope" && w.Kind == api.WordNumber && c["inner"] == 1:
		return c.one("inner number", 1000, api.ErrMany)
	case part == "lexical" || part == "syntax":
		return c.wordOfProduction(word, w)
	}
	return api.OK
}

// wordOfProduction counts what a word of a production begins.
func (c counts) wordOfProduction(word string, w api.DefWord) api.Errno {
	const ahead, inSymbols, inList, inMarks, inItems = 0, 1, 2, 3, 4
	switch state := c["state"]; {
	case word == "=":
		c["state"] = inSymbols
	case word == "(":
		c["state"] = inMarks
	case word == "as":
		c["state"] = inItems
	case word == "}":
		c["state"] = inSymbols
	case state == inSymbols && (word == "{" || w.Kind != api.WordSign):
		if word == "{" {
			c["state"] = inList
		}
		return c.one("symbol", 30, api.ErrMany)
	case state == inItems && word != ";":
		return c.one("item", 1000, api.ErrMany)
	case word == "prefer" || word == "avoid":
		return c.one("choice", 1, api.ErrDefine)
	case word == "left" || word == "right" || word == "non":
		return c.one("order", 1, api.ErrDefine)
	case word == "bracket":
		return c.one("bracket", 1, api.ErrDefine)
	}
	return api.OK
}
