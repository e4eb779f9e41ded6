package deftext_test

import (
	"fmt"
	"math/rand"
	"slices"
	"strconv"
	"strings"

	"rosetta/api"
	"rosetta/sets"
)

// some tells a list of up to most things, perhaps none at all.
func some[T any](die *rand.Rand, most int, one func(*rand.Rand) T) []T {
	var out []T
	for range die.Intn(most + 1) {
		out = append(out, one(die))
	}
	return out
}

// oneOrMore is as some, but never none.
func oneOrMore[T any](die *rand.Rand, most int, one func(*rand.Rand) T) []T {
	return append([]T{one(die)}, some(die, most-1, one)...)
}

func pick[T any](die *rand.Rand, l ...T) T { return l[die.Intn(len(l))] }

func randomName(die *rand.Rand) string {
	return pick(die, "A", "B", "E", "Id", "_", "lefty", "Module", "a1", "x_9", strings.Repeat("Z", 64))
}

func randomText(die *rand.Rand) string {
	length := pick(die, 1, 1, 2, 3, 30)
	out := make([]byte, length)
	for i := range out {
		out[i] = pick(die, byte(die.Intn(256)), 'a', '"', '\\', ';', ' ')
	}
	return string(out)
}

func randomSet(die *rand.Rand) api.Set {
	return pick(die, api.Set{}, sets.All(), sets.Of(' '), read("[a-z]"), read(`[^"\\\]]`), api.Set{die.Uint64(), die.Uint64(), die.Uint64(), die.Uint64()})
}

func randomKid(die *rand.Rand) int { return pick(die, 1, 2, 9, 10, 30, 1+die.Intn(30)) }

func randomSymbol(die *rand.Rand) api.DefSym {
	s := pick(die, sort(randomName(die)), lit(randomText(die)), api.DefSym{Is: api.DefSet, Set: randomSet(die)})
	s.Many = api.DefMany(die.Intn(4))
	if s.Many >= api.ManyStar && die.Intn(2) == 0 {
		s.Sep = randomText(die)
	}
	return s
}

func randomItem(die *rand.Rand) api.DefItem {
	return pick(die, text(randomText(die)), kid(randomKid(die)), brk(1+die.Intn(4)))
}

func randomProd(die *rand.Rand) api.DefProd {
	d := api.DefProd{Sort: randomName(die), Right: some(die, 5, randomSymbol)}
	if die.Intn(2) == 0 {
		d.Lexical, d.Reject = true, die.Intn(2) == 0
		return d
	}
	d.Cons = pick(die, "", randomName(die))
	choice := die.Intn(3)
	d.Prefer, d.Avoid, d.Bracket = choice == 1, choice == 2, die.Intn(3) == 0
	d.Assoc = api.Assoc(die.Intn(4))
	d.Template = some(die, 4, randomItem)
	return d
}

func randomRestrict(die *rand.Rand) api.DefRestrict {
	return pick(die, api.DefRestrict{Name: randomName(die), Not: randomSet(die)}, api.DefRestrict{Text: randomText(die), Not: randomSet(die)})
}

func randomCons(die *rand.Rand) api.DefName {
	return api.DefName{Sort: randomName(die), Cons: randomName(die)}
}

func randomGroup(die *rand.Rand) api.DefGroup {
	return api.DefGroup{Names: oneOrMore(die, 3, randomCons), Assoc: api.Assoc(die.Intn(4))}
}

func randomPrio(die *rand.Rand) api.DefPrio {
	return api.DefPrio{Groups: oneOrMore(die, 3, randomGroup)}
}

func randomDeclare(die *rand.Rand) api.DefDeclare {
	return api.DefDeclare{Kid: randomKid(die), Space: randomName(die), Own: die.Intn(2) == 0}
}

func randomUse(die *rand.Rand) api.DefUse { return api.DefUse(randomDeclare(die)) }

func randomScope(die *rand.Rand) api.DefScope {
	return api.DefScope{Of: randomCons(die), Declares: some(die, 3, randomDeclare), Uses: some(die, 3, randomUse), Inner: some(die, 4, randomKid)}
}

func randomImport(die *rand.Rand) api.DefImport {
	return api.DefImport{Name: randomName(die), Renames: some(die, 3, func(die *rand.Rand) api.DefRename {
		return api.DefRename{From: randomName(die), To: randomName(die)}
	})}
}

func randomModule(die *rand.Rand) api.Module {
	return api.Module{
		Name: randomName(die), Imports: some(die, 3, randomImport),
		Start: pick(die, "", randomName(die)), Layout: pick(die, "", randomName(die)), Comments: some(die, 2, randomName),
		Prods: some(die, 4, randomProd), Restricts: some(die, 2, randomRestrict), Prios: some(die, 2, randomPrio), Scopes: some(die, 2, randomScope),
	}
}

// spellText spells a text as some reader's text may spell it.
func spellText(die *rand.Rand, s string) string {
	out := `"`
	for _, b := range []byte(s) {
		plain := fmt.Sprintf(`\x%02x`, b)
		if b >= ' ' && b <= '~' && b != '"' && b != '\\' {
			plain = string([]byte{b})
		}
		out += pick(die, fmt.Sprintf(`\x%02X`, b), plain, plain)
	}
	return out + `"`
}

// spellSet is as spellText, of a set.
func spellSet(die *rand.Rand, s api.Set) string {
	return pick(die, sets.Text(s), "[^"+sets.Text(sets.Not(s))[1:])
}

// safeSet spells a set byte by byte, if what spellSet spells is none.
func safeSet(die *rand.Rand, s api.Set) string {
	spelt := spellSet(die, s)
	if again, err := sets.Read(spelt); err == api.OK && again == s {
		return spelt
	}
	return sets.Text(s)
}

// shuffled puts lists into one, in any order that keeps each one's own.
func shuffled(die *rand.Rand, lists ...[][]string) []string {
	var out []string
	for {
		lists = slices.DeleteFunc(lists, func(l [][]string) bool { return len(l) == 0 })
		if len(lists) == 0 {
			return out
		}
		i := die.Intn(len(lists))
		out = append(out, lists[i][0]...)
		lists[i] = lists[i][1:]
	}
}

func spellThing(die *rand.Rand, s api.DefSym) string {
	switch s.Is {
	case api.DefSort:
		return s.Name
	case api.DefLit:
		return spellText(die, s.Text)
	}
	return safeSet(die, s.Set)
}

func spellProd(die *rand.Rand, d api.DefProd) []string {
	out := []string{"syntax", d.Sort}
	if d.Lexical {
		out[0] = "lexical"
	}
	if d.Cons != "" {
		out = append(out, ".", d.Cons)
	}
	out = append(out, "=")
	for _, s := range d.Right {
		thing := []string{spellThing(die, s)}
		if s.Sep != "" {
			thing = []string{"{", thing[0], spellText(die, s.Sep), "}"}
		}
		out = append(out, thing...)
		if s.Many != api.ManyOne {
			out = append(out, string("1?*+"[s.Many]))
		}
	}
	var marks []string
	for mark, stands := range map[string]bool{"reject": d.Reject, "prefer": d.Prefer, "avoid": d.Avoid, "bracket": d.Bracket, "left": d.Assoc == 1, "right": d.Assoc == 2, "non": d.Assoc == 3} {
		if stands {
			marks = append(marks, mark)
		}
	}
	slices.Sort(marks)
	die.Shuffle(len(marks), func(i, j int) { marks[i], marks[j] = marks[j], marks[i] })
	for i, mark := range marks {
		out = append(out, pickAt("(,", i), mark)
	}
	if len(marks) > 0 {
		out = append(out, ")")
	}
	for i, item := range d.Template {
		if i == 0 {
			out = append(out, "as")
		}
		switch {
		case item.Text != "":
			out = append(out, spellText(die, item.Text))
		case item.Kid != 0:
			out = append(out, strconv.Itoa(item.Kid))
		default:
			out = append(out, strings.Fields("soft line in out")[item.Break-1])
		}
	}
	return append(out, ";")
}

func spellRestrict(die *rand.Rand, r api.DefRestrict) []string {
	of := r.Name
	if of == "" {
		of = spellText(die, r.Text)
	}
	return []string{"restrict", of, "not", safeSet(die, r.Not), ";"}
}

func spellPrio(_ *rand.Rand, p api.DefPrio) []string {
	var out []string
	for _, g := range p.Groups {
		out = append(out, ">")
		if g.Assoc != 0 {
			out = append(out, strings.Fields("left right non")[g.Assoc-1])
		}
		for _, n := range g.Names {
			out = append(out, n.Sort, ".", n.Cons)
		}
	}
	out[0] = "priority"
	return append(out, ";")
}

func spellDeclare(word string, d api.DefDeclare) []string {
	out := []string{word, "own", strconv.Itoa(d.Kid), d.Space, ";"}
	if !d.Own {
		out = slices.Delete(out, 1, 2)
	}
	return out
}

func spellScope(die *rand.Rand, s api.DefScope) []string {
	var declares, uses, inner [][]string
	for _, d := range s.Declares {
		declares = append(declares, spellDeclare("declare", d))
	}
	for _, u := range s.Uses {
		uses = append(uses, spellDeclare("use", api.DefDeclare(u)))
	}
	for _, n := range s.Inner {
		if last := len(inner) - 1; last >= 0 && die.Intn(2) == 0 {
			inner[last] = slices.Insert(inner[last], len(inner[last])-1, strconv.Itoa(n))
		} else {
			inner = append(inner, []string{"inner", strconv.Itoa(n), ";"})
		}
	}
	out := append([]string{"scope", s.Of.Sort, ".", s.Of.Cons, "{"}, shuffled(die, declares, uses, inner)...)
	return append(out, "}")
}

func spellImport(_ *rand.Rand, i api.DefImport) []string {
	out := []string{"import", i.Name}
	for k, r := range i.Renames {
		out = append(out, pickAt("(,", k), r.From, "=", r.To)
	}
	if len(i.Renames) > 0 {
		out = append(out, ")")
	}
	return append(out, ";")
}

// pickAt tells the k-th sign, or the last.
func pickAt(signs string, k int) string {
	return signs[min(k, len(signs)-1):][:1]
}

func spellAll[T any](die *rand.Rand, l []T, one func(*rand.Rand, T) []string) [][]string {
	var out [][]string
	for _, x := range l {
		out = append(out, one(die, x))
	}
	return out
}

// spell tells the words of a text that says a module, its parts in any order.
func spell(die *rand.Rand, m api.Module) []string {
	sorts := func(word string, l ...string) [][]string {
		l = slices.DeleteFunc(slices.Clone(l), func(s string) bool { return s == "" })
		return spellAll(die, l, func(_ *rand.Rand, s string) []string { return []string{word, s, ";"} })
	}
	return append([]string{"module", m.Name, ";"}, shuffled(die,
		spellAll(die, m.Imports, spellImport),
		sorts("start", m.Start), sorts("layout", m.Layout), sorts("comment", m.Comments...),
		spellAll(die, m.Prods, spellProd), spellAll(die, m.Restricts, spellRestrict), spellAll(die, m.Prios, spellPrio), spellAll(die, m.Scopes, spellScope))...)
}

// withGaps puts words together with all kinds of gaps, or none where none must be.
func withGaps(die *rand.Rand, words []string) string {
	var out strings.Builder
	runs := func(b byte) bool {
		return b >= '0' && b <= '9' || b >= 'a' && b <= 'z' || b >= 'A' && b <= 'Z' || b == '_'
	}
	for i, w := range words {
		gap := pick(die, " ", "\n", "\t\r ", " // \"x;\n", "//\n", "", "", " ")
		if i > 0 && gap == "" && runs(words[i-1][len(words[i-1])-1]) && runs(w[0]) {
			gap = " "
		}
		out.WriteString(gap + w)
	}
	return out.String() + pick(die, "", " ", "// end", "\n")
}
