// Package span is layer 1: see shared/doc/01-span.md.
package span

import (
	"iter"
	"strings"

	"rosetta/api"
)

// lineEnd is the byte behind which a line ends.
const lineEnd = "\n"

// At tells a place's position.
func At(text string, place int) (api.Pos, api.Errno) {
	if len(text) > api.MaxText {
		return api.Pos{}, api.ErrLong
	}
	if place < 0 || place > len(text) {
		return api.Pos{}, api.ErrRange
	}
	ahead := text[:place]
	begin := strings.LastIndex(ahead, lineEnd) + 1
	return api.Pos{Line: strings.Count(ahead, lineEnd) + 1, Column: place - begin + 1}, api.OK
}

// Place tells a position's place.
func Place(text string, p api.Pos) (int, api.Errno) {
	if len(text) > api.MaxText {
		return 0, api.ErrLong
	}
	line, there := nthLine(text, p.Line)
	// The place behind a line's bytes has a column too: of the line end, or of the text's end.
	if !there || p.Column < 1 || p.Column > line.Until-line.From+1 {
		return 0, api.ErrRange
	}
	return line.From + p.Column - 1, api.OK
}

// Lines goes over the lines.
func Lines(text string) iter.Seq2[api.Span, string] {
	return func(yield func(api.Span, string) bool) {
		for s := range lineSpans(text) {
			// A copy, so that who keeps a line doesn't keep the whole text.
			if !yield(s, strings.Clone(text[s.From:s.Until])) {
				return
			}
		}
	}
}

// Diff tells the least edit between two texts.
func Diff(a, b string) (api.Edit, bool) {
	if a == b {
		return api.Edit{}, false
	}
	begin := commonBegin(a, b)
	end := commonEnd(a[begin:], b[begin:])
	return api.Edit{
		Span: api.Span{From: begin, Until: len(a) - end},
		Text: strings.Clone(b[begin : len(b)-end]),
	}, true
}

// nthLine tells the span of a line by its number, from 1 on.
func nthLine(text string, number int) (api.Span, bool) {
	count := 0
	for s := range lineSpans(text) {
		count++
		if count == number {
			return s, true
		}
	}
	return api.Span{}, false
}

// lineSpans goes over the lines' spans, their line ends left out.
func lineSpans(text string) iter.Seq[api.Span] {
	return func(yield func(api.Span) bool) {
		from := 0
		for {
			length := strings.Index(text[from:], lineEnd)
			if length < 0 {
				break
			}
			if !yield(api.Span{From: from, Until: from + length}) {
				return
			}
			from += length + len(lineEnd)
		}
		yield(api.Span{From: from, Until: len(text)})
	}
}

// commonBegin tells how many bytes both begin with.
func commonBegin(a, b string) int {
	n := 0
	for n < min(len(a), len(b)) && a[n] == b[n] {
		n++
	}
	return n
}

// commonEnd tells how many bytes both end with.
func commonEnd(a, b string) int {
	n := 0
	for n < min(len(a), len(b)) && a[len(a)-1-n] == b[len(b)-1-n] {
		n++
	}
	return n
}
