package filters_test

import (
	"testing"

	"rosetta/api"
	"rosetta/deftext"
	"rosetta/normal"
)

// definition is the language of the document's ten examples, with one production as it is told.
func definition(t *testing.T, add string) api.Grammar {
	t.Helper()
	m, _, e := deftext.Parse(`module M; start E; layout L; lexical L = [\x20]+; restrict L not [\x20]; lexical Id = [a-z]+; restrict Id not [a-z]; lexical Id = "let" (reject); lexical Id = "in" (reject); syntax E.Let = "let" Id "=" E "in" E; syntax E.Ref = Id; syntax E.Add = E "+" E` + add + `; priority E.Add > E.Let;`)
	if e != api.OK {
		t.Fatal(e)
	}
	g, e := normal.Make(m)
	if e != api.OK {
		t.Fatal(e)
	}
	return g
}

// The trees of a text, of a language as definitions tell it (the document's examples 1 to 3).
func TestLanguage(t *testing.T) {
	for text, want := range map[string][2]int{
		"let a = b in a":         {1, 1},
		"a + b + c":              {1, 2},
		"a+b":                    {1, 1},
		"let":                    {0, 0},
		"in":                     {0, 0},
		"lets":                   {1, 1},
		"le":                     {1, 1},
		"let let = b in a":       {0, 0},
		"let a = let b = c in d": {0, 0},
		"  let  a=b  in  a  ":    {1, 1},
		"leta = b in a":          {1, 1},
		"a b":                    {0, 0},
		"":                       {0, 0},
		"let a = b in a + c":     {1, 1},
	} {
		with, without := treesLeft(t, definition(t, " (left)"), text), treesLeft(t, definition(t, ""), text)
		if with != want[0] || without != want[1] {
			t.Errorf("P12.1: %q has %d trees, without left %d, want %v", text, with, without, want)
		}
	}
}
