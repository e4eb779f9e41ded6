package deftext

import (
	"strconv"
	"strings"

	"rosetta/api"
	"rosetta/sets"
)

// told tells a piece's text: nothing of one that may not be.
func told[T any](piece T, mayBe func(T) bool, words func(T) []string) string {
	if !mayBe(piece) {
		return ""
	}
	return spaced(words(piece))
}

// spaced puts words together, one blank between, but where none stands.
func spaced(words []string) string {
	var out strings.Builder
	for i, word := range words {
		if i > 0 && words[i-1] != "(" && !isTight(word) {
			out.WriteByte(' ')
		}
		out.WriteString(word)
	}
	return out.String()
}

// isTight tells whether no blank stands ahead of a word. (A literal is no sign: it has its quotes.)
func isTight(word string) bool {
	switch word {
	case ";", ",", "?", "*", "+", ")":
		return true
	}
	return false
}

// tellLines tells a module's lines as words, while the line goes on; then true.
func tellLines(m api.Module, line func(words []string) bool) bool {
	return line([]string{"module", m.Name, ";"}) &&
		eachLine(m.Imports, importWords, line) &&
		eachLine(ifAny(m.Start), sortWords("start"), line) &&
		eachLine(ifAny(m.Layout), sortWords("layout"), line) &&
		eachLine(m.Comments, sortWords("comment"), line) &&
		eachLine(m.Prods, prodWords, line) &&
		eachLine(m.Restricts, restrictWords, line) &&
		eachLine(m.Prios, prioWords, line) &&
		eachLine(m.Scopes, scopeWords, line)
}

// eachLine tells a line of each piece, while the line goes on; then true.
func eachLine[T any](pieces []T, words func(T) []string, line func([]string) bool) bool {
	for _, piece := range pieces {
		if !line(words(piece)) {
			return false
		}
	}
	return true
}

// ifAny tells a list of a name, or of none, if it is empty.
func ifAny(name string) []string {
	if name == "" {
		return nil
	}
	return []string{name}
}

// sortWords tells how a sort is told behind a word.
func sortWords(word string) func(sort string) []string {
	return func(sort string) []string {
		return []string{word, sort, ";"}
	}
}

// importWords tells an import.
func importWords(i api.DefImport) []string {
	out := []string{"import", i.Name}
	var pairs [][]string
	for _, r := range i.Renames {
		pairs = append(pairs, []string{r.From, "=", r.To})
	}
	out = append(out, inBrackets(pairs)...)
	return append(out, ";")
}

// prodWords tells a production.
func prodWords(d api.DefProd) []string {
	out := []string{"syntax", d.Sort}
	switch {
	case d.Lexical:
		out[0] = "lexical"
	case d.Cons != "":
		out[1] = consWord(api.DefName{Sort: d.Sort, Cons: d.Cons})
	}
	out = append(out, "=")
	for _, s := range d.Right {
		out = append(out, symbolWords(s)...)
	}
	out = append(out, inBrackets(marks(d))...)
	if len(d.Template) > 0 {
		out = append(out, "as")
	}
	for _, i := range d.Template {
		out = append(out, itemWord(i))
	}
	return append(out, ";")
}

// consWord tells a constructor.
func consWord(c api.DefName) string {
	return c.Sort + "." + c.Cons
}

// symbolWords tells a symbol.
func symbolWords(s api.DefSym) []string {
	var out []string
	switch s.Is {
	case api.DefSort:
		out = append(out, s.Name)
	case api.DefLit:
		out = append(out, Quote(s.Text))
	case api.DefSet:
		out = append(out, sets.Text(s.Set))
	}
	if s.Sep != "" {
		out = []string{"{", out[0], Quote(s.Sep), "}"}
	}
	switch s.Many {
	case api.ManyOpt:
		out = append(out, "?")
	case api.ManyStar:
		out = append(out, "*")
	case api.ManyPlus:
		out = append(out, "+")
	}
	return out
}

// inBrackets tells pieces in brackets, a comma between each two: of none nothing.
func inBrackets(pieces [][]string) []string {
	var out []string
	ahead := "("
	for _, piece := range pieces {
		out = append(out, ahead)
		out = append(out, piece...)
		ahead = ","
	}
	if len(out) > 0 {
		out = append(out, ")")
	}
	return out
}

// marks tells a production's marks.
func marks(d api.DefProd) [][]string {
	var out [][]string
	mark := func(stands bool, word string) {
		if stands {
			out = append(out, []string{word})
		}
	}
	mark(d.Reject, "reject")
	mark(d.Prefer, "prefer")
	mark(d.Avoid, "avoid")
	mark(d.Bracket, "bracket")
	mark(d.Assoc != api.AssocNone, assocWords[d.Assoc])
	return out
}

// itemWord tells an item of a template.
func itemWord(i api.DefItem) string {
	switch {
	case i.Text != "":
		return Quote(i.Text)
	case i.Kid != 0:
		return strconv.Itoa(i.Kid)
	}
	return breakWords[i.Break]
}

// restrictWords tells a restriction.
func restrictWords(r api.DefRestrict) []string {
	of := r.Name
	if r.Text != "" {
		of = Quote(r.Text)
	}
	return []string{"restrict", of, "not", sets.Text(r.Not), ";"}
}

// prioWords tells a priority.
func prioWords(p api.DefPrio) []string {
	out := []string{"priority"}
	for i, g := range p.Groups {
		if i > 0 {
			out = append(out, ">")
		}
		if g.Assoc != api.AssocNone {
			out = append(out, assocWords[g.Assoc])
		}
		for _, c := range g.Names {
			out = append(out, consWord(c))
		}
	}
	return append(out, ";")
}

// scopeWords tells a scope.
func scopeWords(s api.DefScope) []string {
	out := []string{"scope", consWord(s.Of), "{"}
	for _, d := range s.Declares {
		out = append(out, declareWords("declare", d)...)
	}
	for _, u := range s.Uses {
		out = append(out, declareWords("use", api.DefDeclare(u))...)
	}
	if len(s.Inner) > 0 {
		out = append(out, "inner")
		for _, kid := range s.Inner {
			out = append(out, strconv.Itoa(kid))
		}
		out = append(out, ";")
	}
	return append(out, "}")
}

// declareWords tells a declare, or a use, behind its word.
func declareWords(word string, d api.DefDeclare) []string {
	out := []string{word}
	if d.Own {
		out = append(out, "own")
	}
	return append(out, strconv.Itoa(d.Kid), d.Space, ";")
}
