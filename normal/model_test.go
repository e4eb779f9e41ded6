package normal_test

import (
	"fmt"
	"math/rand"
	"reflect"
	"slices"
	"strings"
	"testing"

	"rosetta/api"
	"rosetta/deftext"
	"rosetta/kernel"
	"rosetta/modules"
	"rosetta/normal"
	"rosetta/sets"
)

// model tells flaws and grammars as the chapter's words say them, by names and lines, of a module whose parts are in order.
type model struct {
	api.Module
	lines map[string][]string // each sort's productions, as told tells them
}

// sortsOf tells the sorts that have productions of a kind.
func (m *model) sortsOf(kinds ...bool) map[string]bool {
	out := map[string]bool{}
	for _, p := range m.Prods {
		if slices.Contains(kinds, p.Lexical) {
			out[p.Sort] = true
		}
	}
	return out
}

// x tells a symbol once.
func x(s api.DefSym) string {
	return []string{s.Name, deftext.Quote(s.Text), sets.Text(s.Set)}[s.Is]
}

// isSet tells whether a word of a line is a set of bytes, and no sort.
func isSet(word string) bool { return word[0] == '[' && strings.HasSuffix(word, "]") }

// symbol tells a symbol's sort, or set, and sees to the lines of what is made for it.
func (m *model) symbol(s api.DefSym, lexical bool) string {
	one, gap, tilde, sep := x(s), " ", "", ""
	if s.Is == api.DefLit {
		m.literal(s.Text)
	}
	if lexical {
		tilde = "~"
	} else if m.Layout != "" {
		gap = " <gap> "
	}
	between := gap
	if s.Sep != "" {
		m.literal(s.Sep)
		sep = deftext.Quote(s.Sep)
		between = gap + sep + gap
	}
	plus := tilde + one + "+" + sep
	plusLines := []string{plus + " = " + one + " : one", plus + " = " + plus + between + one + " : more"}
	switch s.Many {
	case api.ManyOpt:
		name := tilde + one + "?"
		m.lines[name] = []string{name + " = : none", name + " = " + one + " : some"}
		return name
	case api.ManyPlus:
		m.lines[plus] = plusLines
		return plus
	case api.ManyStar:
		m.lines[plus] = plusLines
		name := tilde + one + "*" + sep
		m.lines[name] = []string{name + " = : none", name + " = " + plus + " : some"}
		return name
	}
	return one
}

func (m *model) literal(text string) {
	line := deftext.Quote(text) + " ="
	for i := range len(text) {
		line += " " + sets.Text(sets.Of(text[i]))
	}
	m.lines[deftext.Quote(text)] = []string{line + " : literal"}
}

// own tells the line of the definition's production of a number.
func (m *model) own(number int) string {
	p := m.Prods[number]
	gap, role, words := " ", "cons", []string{}
	switch {
	case p.Reject:
		role = "reject"
	case p.Lexical:
		role = "lexical"
	case p.Cons == "":
		role = "inject"
	}
	if !p.Lexical && m.Layout != "" {
		gap = " <gap> "
	}
	for _, s := range p.Right {
		switch {
		case !p.Reject:
			words = append(words, m.symbol(s, p.Lexical))
		case s.Is == api.DefSet:
			words = append(words, sets.Text(s.Set))
		default:
			for i := range len(s.Text) {
				words = append(words, sets.Text(sets.Of(s.Text[i])))
			}
		}
	}
	line := p.Sort
	if p.Cons != "" {
		line += "." + p.Cons
	}
	line += " ="
	if len(words) > 0 {
		line += " " + strings.Join(words, gap)
	}
	line += " : " + role
	if p.Prefer {
		line += " prefer"
	}
	if p.Avoid {
		line += " avoid"
	}
	return fmt.Sprint(line, " ", number)
}

// grown tells the sorts and the productions' lines of the grammar of a definition that has none of the flaws that are looked for first.
func (m *model) grown() (sorts, lines []string) {
	m.lines = map[string][]string{"<start>": {"<start> = " + m.Start + " : start"}}
	if m.Layout != "" {
		m.lines["<start>"] = []string{"<start> = <gap> " + m.Start + " <gap> : start"}
		m.lines["<gap>"] = []string{"<gap> = : gap", "<gap> = " + m.Layout + " : layout"}
	}
	for number, p := range m.Prods {
		m.lines[p.Sort] = append(m.lines[p.Sort], m.own(number))
	}
	own := m.sortsOf(true, false)
	rank := func(sort string) string { // kinds of sorts one behind the other, each by name
		return fmt.Sprint(map[bool]int{true: 1}[sort == "<gap>"]+map[bool]int{true: 2}[own[sort]]+map[bool]int{true: 3}[sort[0] != '<' && !own[sort]], sort)
	}
	for sort := range m.lines {
		sorts = append(sorts, sort)
	}
	slices.SortFunc(sorts, func(a, b string) int { return strings.Compare(rank(a), rank(b)) })
	for _, sort := range sorts {
		lines = append(lines, m.lines[sort]...)
	}
	return sorts, lines
}

// words tells the symbols and the constructor of a line.
func words(line string) (left, cons string, right []string, role string) {
	head, rest, _ := strings.Cut(line, " =")
	symbols, marks, _ := strings.Cut(rest, " : ")
	left = head
	if head[0] != '"' && head[0] != '[' && head[0] != '~' && !strings.Contains(head, `"`) {
		left, cons, _ = strings.Cut(head, ".")
	}
	return left, cons, strings.Fields(symbols), strings.Fields(marks)[0]
}

// forbidden tells the lines of what priorities and orders forbid, each production, symbol, production tried.
func (m *model) forbidden(lines []string) []string {
	var out []string
	for p, parent := range lines {
		pSort, pCons, right, _ := words(parent)
		for at, symbol := range right {
			for q, child := range lines {
				qSort, qCons, _, _ := words(child)
				if symbol == qSort && pCons != "" && qCons != "" && m.forbids(api.DefName{Sort: pSort, Cons: pCons}, api.DefName{Sort: qSort, Cons: qCons}, at == 0, at == len(right)-1) {
					out = append(out, fmt.Sprint("forbid ", p, " ", at+1, " ", q))
				}
			}
		}
	}
	return out
}

// forbids tells whether one constructor's production may not stand in another's.
func (m *model) forbids(p, q api.DefName, first, last bool) bool {
	sides := func(a api.Assoc) bool {
		return a == api.AssocLeft && last || a == api.AssocRight && first || a == api.AssocNon && (first || last)
	}
	for _, prio := range m.Prios {
		for i, ahead := range prio.Groups {
			if !slices.Contains(ahead.Names, p) {
				continue
			}
			if sides(ahead.Assoc) && slices.Contains(ahead.Names, q) {
				return true
			}
			for _, behind := range prio.Groups[i+1:] {
				if slices.Contains(behind.Names, q) {
					return true
				}
			}
		}
	}
	return p == q && slices.ContainsFunc(m.Prods, func(d api.DefProd) bool { return d.Sort == p.Sort && d.Cons == p.Cons && sides(d.Assoc) })
}

// followed tells the lines of what may not follow.
func (m *model) followed(sorts []string) []string {
	var out []string
	for _, sort := range sorts {
		not := map[byte]bool{}
		for _, r := range m.Restricts {
			if r.Name == sort && r.Name != "" || r.Text != "" && deftext.Quote(r.Text) == sort || sort == "<gap>" && r.Name == m.Layout {
				for b := range sets.Bytes(r.Not) {
					not[b] = true
				}
			}
		}
		var l []byte
		for b := range not {
			l = append(l, b)
		}
		if len(l) > 0 {
			out = append(out, "follow "+sort+" "+sets.Text(sets.Of(l...)))
		}
	}
	return out
}

// flaws tells a definition's flaws of the kinds that are looked for first.
func (m *model) flaws() []api.Flaw {
	found := map[api.Flaw]bool{}
	tell := func(wrong bool, err api.Errno, of string) {
		if wrong {
			found[api.Flaw{Err: err, Of: of}] = true
		}
	}
	all, lexical, syntax := m.sortsOf(true, false), m.sortsOf(true), m.sortsOf(false)
	tell(!all[m.Start], api.ErrStart, m.Start)
	for sort := range all {
		tell(lexical[sort] && syntax[sort], api.ErrMixed, sort)
	}
	named := append([]string{m.Layout}, m.Comments...)
	for _, sort := range named {
		tell(all[sort] && !lexical[sort], api.ErrLexical, sort)
	}
	for _, r := range m.Restricts {
		named = append(named, r.Name)
	}
	for _, c := range m.constructors() {
		named = append(named, c.Sort)
		tell(!slices.ContainsFunc(m.Prods, func(p api.DefProd) bool { return p.Sort == c.Sort && p.Cons == c.Cons }), api.ErrPrio, c.Sort+"."+c.Cons)
	}
	for i, p := range m.Prods {
		text, kids, odd, cons := deftext.Prod(p), []api.DefSym{}, false, false
		for _, s := range p.Right {
			named = append(named, s.Name)
			tell(p.Lexical && syntax[s.Name], api.ErrLexical, text)
			tell(s.Is == api.DefSet && sets.Count(s.Set) == 0, api.ErrLexical, text)
			odd = odd || s.Name != "" || s.Many != api.ManyOne
			if s.Is != api.DefLit || s.Many != api.ManyOne {
				kids = append(kids, s)
			}
		}
		tell(p.Reject && odd, api.ErrReject, text)
		cons = p.Cons != "" && p.Bracket || p.Cons == "" && (len(kids) != 1 || kids[0] != api.DefSym{Name: kids[0].Name} || kids[0].Name == "")
		for _, earlier := range m.Prods[:i] {
			cons = cons || !earlier.Lexical && p.Cons != "" && earlier.Sort == p.Sort && earlier.Cons == p.Cons
		}
		tell(!p.Lexical && cons, api.ErrCons, text)
	}
	for _, sort := range named {
		tell(sort != "" && sort != m.Start && !all[sort], api.ErrSort, sort)
	}
	return inOrder(found)
}

// constructors tells those that priorities and scopes name.
func (m *model) constructors() []api.DefName {
	var out []api.DefName
	for _, p := range m.Prios {
		for _, g := range p.Groups {
			out = append(out, g.Names...)
		}
	}
	for _, s := range m.Scopes {
		out = append(out, s.Of)
	}
	return out
}

func inOrder(found map[api.Flaw]bool) []api.Flaw {
	var out []api.Flaw
	for f := range found {
		out = append(out, f)
	}
	slices.SortFunc(out, func(a, b api.Flaw) int {
		return strings.Compare(fmt.Sprint(int(a.Err), a.Of), fmt.Sprint(int(b.Err), b.Of))
	})
	return out
}

// idle tells the dead sorts' flaws, or else those of the definition's sorts that are apart.
func (m *model) idle(sorts, lines []string) []api.Flaw {
	live, met, found := map[string]bool{}, map[string]bool{"<start>": true}, map[api.Flaw]bool{}
	for range sorts {
		for _, line := range lines {
			left, _, right, role := words(line)
			if role != "reject" && !slices.ContainsFunc(right, func(s string) bool { return !isSet(s) && !live[s] }) {
				live[left] = true
			}
			for _, s := range right {
				met[s] = met[s] || met[left] && role != "reject"
			}
		}
	}
	for _, sort := range sorts {
		if !live[sort] {
			found[api.Flaw{Err: api.ErrDead, Of: sort}] = true
		}
	}
	if len(found) > 0 {
		return inOrder(found)
	}
	for sort := range m.sortsOf(true, false) {
		if !met[sort] {
			found[api.Flaw{Err: api.ErrApart, Of: sort}] = true
		}
	}
	return inOrder(found)
}

func pick[T any](die *rand.Rand, l ...T) T { return l[die.Intn(len(l))] }

// randomSymbol tells a symbol that is mostly one that its production may have.
func randomSymbol(die *rand.Rand, lexical bool) string {
	thing := pick(die, "E", "E", "E", "F", "N", `"a"`, `"b"`, `"+"`, "[ab]", "[^a]", "G")
	if lexical {
		thing = pick(die, "N", "M", "M", `"a"`, `"b"`, "[ab]", "[0-9]", "[0-9]")
	}
	if die.Intn(60) == 0 {
		thing = pick(die, "Q", "N", "E", "[]")
	}
	return pick(die, thing, thing, thing, thing, thing+"?", thing+"*", thing+"+", `{ `+thing+` "," }+`, `{ `+thing+` "a" }*`)
}

// randomPart tells a part of a definition.
func randomPart(die *rand.Rand) string {
	cons := func() string {
		return pick(die, "E.A", "E.A", "E.B", "E.B", "E.C", "E.D", "F.A", pick(die, "E.A", "F.B", "N.A", "Q.A", "E.Z"))
	}
	symbols := func(lexical bool, most int) (out string) {
		for range die.Intn(most + 1) {
			out += " " + randomSymbol(die, lexical)
		}
		return out
	}
	switch die.Intn(13) {
	case 0, 1, 2, 3:
		return "syntax " + pick(die, "E.A", "E.B", "E.C", "E.D", "F.A", "F.B", "G.A") + " =" + symbols(false, 4) + pick(die, "", "", " (left)", " (right, avoid)", " (non)", " (prefer)", pick(die, "", "", "", " (bracket)")) + pick(die, "", " as 1") + ";"
	case 4:
		return "syntax " + pick(die, "E", "F", "G") + " = " + pick(die, `"(" E ")" (bracket)`, "N", "E (left)", `F "b" (avoid)`, "N", `"a" "b" G`, pick(die, "N", "[a]", "E*", "E E", `"a"`, `"a"* E`, "")) + ";"
	case 5, 6:
		return "lexical " + pick(die, "N", "N", "M", "M", "L", pick(die, "L", "E", "Z")) + " =" + symbols(true, 3) + ";"
	case 7:
		return "lexical " + pick(die, "N", "M") + " = " + pick(die, `"if"`, `"i" [a-f]`, "", `[ab] "+" [ab]`, pick(die, "", "N", "[]", `"a"?`)) + " (reject);"
	case 8:
		return "restrict " + pick(die, "N", "L", "L", "E", `"a"`, `"b"`, `"if"`, pick(die, "M", "Q")) + " not " + pick(die, "[a]", "[b-d]", "[]", "[^x]") + ";"
	case 9, 10:
		out := "priority "
		for i := range 1 + die.Intn(4) {
			out += pick(die, " >", " > left", " > right", " > non")[map[bool]int{true: 2}[i == 0]:]
			for range 1 + die.Intn(3) {
				out += " " + cons()
			}
		}
		return out + ";"
	case 11:
		return "scope " + cons() + " { use 1 V; }"
	}
	return "comment " + pick(die, "N", "M", "L", "N", pick(die, "E", "Q")) + ";"
}

// randomDefinition tells a definition, often one that is well formed.
func randomDefinition(die *rand.Rand) api.Module {
	text := "start " + pick(die, "E", "E", "E", "E", "E", "F", "N", "Q") + ";"
	if die.Intn(40) == 0 {
		text = ""
	}
	most := 1 + die.Intn(12)
	if die.Intn(8) > 0 { // what the other parts ask for
		text += `syntax E.A = N F? G*; syntax E.B = [a-c]; lexical N = [0-9] M; lexical M = "m"; syntax F.A = E "+" E; syntax G.A = "g"; `
		text = strings.ReplaceAll(text, "E.A =", pick(die, "E.A =", "E.A =", "E.C =", "E.D = E"))
		text = strings.ReplaceAll(text, `"g"`, pick(die, `"g"`, `"g"`, "G", "N"))
	}
	if die.Intn(2) == 0 {
		text += "layout " + pick(die, "L", "L", "L", "L", "L", "M", "E", "Q") + "; lexical L = [ ]" + pick(die, "", "+", "*") + ";"
	}
	for range most {
		text += randomPart(die)
	}
	m := read(text)
	if die.Intn(4) > 0 {
		mend(&m)
	}
	return m
}

// mend leaves out what is a flaw in most random definitions: a constructor told again, or one that is not there.
func mend(m *api.Module) {
	known := map[api.DefName]bool{}
	m.Prods = slices.DeleteFunc(m.Prods, func(p api.DefProd) bool {
		name := api.DefName{Sort: p.Sort, Cons: p.Cons}
		again := p.Cons != "" && (known[name] || p.Bracket)
		known[name] = true
		return again
	})
	unknown := func(name api.DefName) bool { return !known[name] }
	for i, p := range m.Prios {
		for k, g := range p.Groups {
			p.Groups[k].Names = slices.DeleteFunc(g.Names, unknown)
		}
		m.Prios[i].Groups = slices.DeleteFunc(p.Groups, func(g api.DefGroup) bool { return len(g.Names) == 0 })
	}
	m.Prios = slices.DeleteFunc(m.Prios, func(p api.DefPrio) bool { return len(p.Groups) == 0 })
	m.Scopes = slices.DeleteFunc(m.Scopes, func(s api.DefScope) bool { return unknown(s.Of) })
}

func TestAsModel(t *testing.T) {
	die := rand.New(rand.NewSource(77))
	told := map[api.Errno]int{}
	for range 12_000 {
		d := randomDefinition(die)
		ordered, _ := modules.Rename(d)
		m := &model{Module: ordered}
		flaws := m.flaws()
		if len(flaws) == 0 {
			sorts, lines := m.grown()
			if flaws = m.idle(sorts, lines); len(flaws) == 0 {
				told[api.OK]++
				checkModelMade(t, m, d, sorts, lines)
				continue
			}
		}
		kinds := map[api.Errno]bool{}
		for _, f := range flaws {
			kinds[f.Err] = true
		}
		for kind := range kinds {
			told[kind]++
		}
		checkFlaws(t, d, flaws...)
		if t.Failed() {
			text, _ := deftext.Print(d)
			t.Fatal(text)
		}
	}
	for err, count := range told {
		if count < 200 {
			t.Errorf("only %d definitions with %v", count, err)
		}
	}
	if len(told) != 10 {
		t.Errorf("definitions with these alone: %v", told)
	}
}

// checkModelMade holds what Make answers against the model.
func checkModelMade(t *testing.T, m *model, d api.Module, sorts, lines []string) {
	t.Helper()
	g := made(t, d)
	want := slices.Concat(lines, m.forbidden(lines), m.followed(sorts))
	if got := told(g); !slices.Equal(g.Sorts, sorts) || !slices.Equal(got, want) {
		text, _ := deftext.Print(d)
		t.Fatalf("P7.1: Make(%s): %q\n%s\nwant %q\n%s", text, g.Sorts, strings.Join(got, "\n"), sorts, strings.Join(want, "\n"))
	}
	for i, p := range g.Prods {
		s, ok := normal.Source(d, g, i)
		if ok != (p.From >= 0) || ok && !sameProd(s, m.Prods[p.From]) {
			t.Fatalf("P7.2: Source(%s, %d): %v %v", brief(d), i, s, ok)
		}
	}
	var lexical []string
	for sort := range m.sortsOf(true) {
		lexical = append(lexical, sort)
	}
	slices.Sort(lexical)
	if got := normal.Lexical(d); !slices.Equal(got, lexical) {
		t.Fatalf("P7.2: Lexical(%s): %v", brief(d), got)
	}
}

// bend changes something that stands in a module.
func bend(die *rand.Rand, m *api.Module) {
	var all []reflect.Value
	var walk func(v reflect.Value)
	walk = func(v reflect.Value) {
		switch v.Kind() {
		case reflect.Struct:
			for i := range v.NumField() {
				walk(v.Field(i))
			}
		case reflect.Slice:
			all = append(all, v)
			fallthrough
		case reflect.Array:
			for i := range v.Len() {
				walk(v.Index(i))
			}
		default:
			all = append(all, v)
		}
	}
	walk(reflect.ValueOf(m).Elem())
	switch v := pick(die, all...); v.Kind() {
	case reflect.Int:
		v.SetInt(pick(die, v.Int()-1, v.Int()+1, 0, 1, 2, 3, -1, 1<<62))
	case reflect.Uint64:
		v.SetUint(pick[uint64](die, 0, 1<<40))
	case reflect.String:
		v.SetString(pick(die, "", "E", "N", "start", "<gap>", "\x80", strings.Repeat("n", 64), strings.Repeat("n", 65)))
	case reflect.Bool:
		v.SetBool(!v.Bool())
	case reflect.Slice:
		if n := v.Len(); n > 0 && die.Intn(2) == 0 {
			v.Set(v.Slice3(0, n-1, n-1))
		} else {
			v.Set(reflect.Append(v.Slice3(0, n, n), reflect.Zero(v.Type().Elem())))
		}
	}
}

// Whatever module is handed in, the calls end; those that layer 4 refuses, or that import, are refused, and no others.
func TestWild(t *testing.T) {
	die := rand.New(rand.NewSource(777))
	for range 10_000 {
		m := randomDefinition(die)
		for range 1 + die.Intn(3) {
			bend(die, &m)
		}
		l, e := normal.Flaws(m)
		if refused := deftext.Check(m) != api.OK || len(m.Imports) > 0; refused != (e == api.ErrArg) || e != api.OK && len(l) > 0 {
			t.Fatalf("P7.1: Flaws(%s): %v %v", brief(m), l, e)
		}
		g, made := normal.Make(m)
		if e == api.OK && len(l) > 0 {
			e = l[0].Err
		}
		if made != e || made != api.OK && !reflect.DeepEqual(g, api.Grammar{}) {
			t.Fatalf("P7.1: Make(%s): %s %v, want %v", brief(m), brief(g), made, e)
		}
		if made == api.OK {
			if e, n := kernel.Well(g); e != api.OK {
				t.Fatalf("P7.1: Make(%s) is not well formed: %v %d", brief(m), e, n)
			}
		}
		normal.Lexical(m)
		for _, n := range []int{-1, 0, 3, len(g.Prods)} {
			normal.Source(m, g, n)
		}
	}
}
