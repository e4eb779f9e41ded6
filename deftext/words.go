package deftext

import (
	"rosetta/api"
	"rosetta/deflex"
)

// refusal is what reading a definition is given up with.
type refusal struct {
	place int
	err   api.Errno
}

// words is what is still to be read of a text.
type words struct {
	rest   []api.DefWord
	behind refusal // what is told of the place behind the last word; its error is OK, if the text may end there
}

// wordsOf tells the words of a text, up to the first that can't be read: what may not stand ahead of that one comes first.
func wordsOf(text string) words {
	list, place, err := deflex.Lex(text)
	if err == api.OK {
		return words{list, refusal{len(text), api.OK}}
	}
	for _, w := range deflex.All(text) {
		list = append(list, w)
	}
	return words{list, refusal{place, err}}
}

// atEnd tells whether the text ends here.
func (w *words) atEnd() bool {
	return len(w.rest) == 0 && w.behind.err == api.OK
}

// next tells the next word, or a zero one, if there is none.
func (w *words) next() api.DefWord {
	if len(w.rest) == 0 {
		return api.DefWord{}
	}
	return w.rest[0]
}

// refuse gives up at the next word: what can't be read, or is not there, has errors of its own.
func (w *words) refuse(err api.Errno) {
	switch {
	case len(w.rest) > 0:
		panic(refusal{w.rest[0].At, err})
	case w.atEnd():
		panic(refusal{w.behind.place, api.ErrDefine})
	}
	panic(w.behind)
}

// want refuses the next word, unless it may stand here.
func (w *words) want(mayStand bool) {
	if !mayStand {
		w.refuse(api.ErrDefine)
	}
}

// room refuses the next word, with which one more of a list begins, if the list is full.
func (w *words) room(length, most int) {
	if length >= most {
		w.refuse(api.ErrMany)
	}
}

// take moves on behind the next word, and tells it.
func (w *words) take() api.DefWord {
	next := w.next()
	w.rest = w.rest[1:]
	return next
}

// spelling tells the next word, if it is a name or a sign; texts are spelt otherwise.
func (w *words) spelling() string {
	switch next := w.next(); next.Kind {
	case api.WordName, api.WordSign:
		return next.Text
	}
	return ""
}

// pass moves on behind the name or the sign that must stand here.
func (w *words) pass(word string) {
	w.want(w.spelling() == word)
	w.take()
}

// skip moves on behind a name or a sign, if it stands here.
func (w *words) skip(word string) bool {
	if w.spelling() != word {
		return false
	}
	w.take()
	return true
}

// isKind tells whether the next word is of a kind.
func (w *words) isKind(k api.WordKind) bool {
	return w.next().Kind == k
}

// beginsName tells whether a name that is not reserved is next.
func (w *words) beginsName() bool {
	return w.isKind(api.WordName) && !isReserved(w.next().Text)
}

// beginsNumber tells whether a number is next.
func (w *words) beginsNumber() bool {
	return w.isKind(api.WordNumber)
}

// name reads a name.
func (w *words) name() string {
	w.want(w.beginsName())
	return w.take().Text
}

// text reads a text.
func (w *words) text() string {
	w.want(w.isKind(api.WordText))
	if !textMayBe(w.next().Text) {
		w.refuse(api.ErrRange)
	}
	return w.take().Text
}

// number reads a number.
func (w *words) number() int {
	w.want(w.beginsNumber())
	if !numberMayBe(w.next().Number) {
		w.refuse(api.ErrRange)
	}
	return w.take().Number
}

// set reads a set.
func (w *words) set() api.Set {
	w.want(w.isKind(api.WordSet))
	return w.take().Set
}

// isReserved tells whether a name is one of the language's own.
func isReserved(name string) bool {
	switch name {
	case "module", "import", "start", "layout", "comment":
		return true
	case "lexical", "reject", "syntax", "as", "restrict", "not", "priority":
		return true
	case "prefer", "avoid", "bracket", "left", "right", "non":
		return true
	case "soft", "line", "in", "out":
		return true
	case "scope", "declare", "use", "own", "inner":
		return true
	}
	return false
}
