package tables

import (
	"slices"
	"unicode/utf8"

	"rosetta/api"
)

// dots is how many Dots a production may have at most.
const dots = api.MaxRight + 1

// withItem adds an item to a text: a rune. (There are fewer items than runes ahead of the first number that is none.)
func withItem(text []byte, it api.Item) []byte {
	return utf8.AppendRune(text, rune(it.Prod*dots+it.Dot))
}

// textOf tells items as a text.
func textOf(items []api.Item) string {
	var text []byte
	for _, it := range items {
		text = withItem(text, it)
	}
	return string(text)
}

// itemsOf tells the items of a text.
func itemsOf(text string) []api.Item {
	items := slices.Grow([]api.Item(nil), utf8.RuneCountInString(text))
	for _, r := range text {
		items = append(items, api.Item{Prod: int(r) / dots, Dot: int(r) % dots})
	}
	return items
}

// textOfNumbers tells symbols' numbers as a text: a rune each. (There are no more symbols than sorts and items.)
func textOfNumbers(l []int) string {
	var text []byte
	for _, n := range l {
		text = utf8.AppendRune(text, rune(n))
	}
	return string(text)
}
