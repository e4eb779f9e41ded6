package modules_test

import (
	"math/rand"
	"reflect"
	"slices"
	"testing"

	"rosetta/api"
	"rosetta/deftext"
	"rosetta/modules"
)

// model puts modules together as the chapter's words say it: way by way, each part by its text.
type model struct {
	table map[string]api.Module
	leads map[[2]string]bool // which names lead to which, by one import or more
}

func newModel(table []api.Module) *model {
	m := &model{table: map[string]api.Module{}, leads: map[[2]string]bool{}}
	var names []string
	for _, one := range table {
		m.table[one.Name] = one
		names = append(names, one.Name)
		for _, i := range one.Imports {
			m.leads[[2]string{one.Name, i.Name}] = true
			names = append(names, i.Name)
		}
	}
	for _, by := range names {
		for _, from := range names {
			for _, to := range names {
				if m.leads[[2]string{from, by}] && m.leads[[2]string{by, to}] {
					m.leads[[2]string{from, to}] = true
				}
			}
		}
	}
	return m
}

// least tells the least of the names that are reached and of which something holds.
func (m *model) least(root string, holds func(name string) bool) (string, bool) {
	var found []string
	if holds(root) {
		found = append(found, root)
	}
	for way := range m.leads {
		if way[0] == root && holds(way[1]) {
			found = append(found, way[1])
		}
	}
	if len(found) == 0 {
		return "", false
	}
	return slices.Min(found), true
}

// isSort tells in which fields sorts stand.
func isSort(of reflect.Type, field string) bool {
	return slices.Contains([]string{"Module.Start", "Module.Layout", "Module.Comments", "DefProd.Sort", "DefSym.Name", "DefRestrict.Name", "DefName.Sort"}, of.Name()+"."+field)
}

// walk goes over all sorts of a value, which is there by its address.
func walk(v reflect.Value, of reflect.Type, field string, visit func(sort *string)) {
	switch v.Kind() {
	case reflect.String:
		if isSort(of, field) && v.String() != "" {
			visit(v.Addr().Interface().(*string))
		}
	case reflect.Slice:
		for i := range v.Len() {
			walk(v.Index(i), of, field, visit)
		}
	case reflect.Struct:
		for i := range v.NumField() {
			walk(v.Field(i), v.Type(), v.Type().Field(i).Name, visit)
		}
	}
}

// along tells a module whose sorts are renamed by one renaming behind the other.
func along(m api.Module, via [][]api.DefRename) api.Module {
	text, _ := deftext.Print(m)
	out, _, _ := deftext.Parse(text) // in new memory
	walk(reflect.ValueOf(&out).Elem(), nil, "", func(sort *string) {
		for _, l := range via {
			if at := slices.IndexFunc(l, func(r api.DefRename) bool { return r.From == *sort }); at >= 0 {
				*sort = l[at].To
			}
		}
	})
	return out
}

// ways goes over all modules that lead into a root, each by each way.
func (m *model) ways(root string, via [][]api.DefRename, visit func(api.Module)) {
	visit(along(m.table[root], via))
	for _, i := range m.table[root].Imports {
		m.ways(i.Name, append([][]api.DefRename{i.Renames}, via...), visit)
	}
}

// layout tells the layout of a module put together, and whether it clashes.
func (m *model) layout(name string) (string, bool) {
	if own := m.table[name].Layout; own != "" {
		return own, false
	}
	got := ""
	for _, i := range m.table[name].Imports {
		l, _ := m.layout(i.Name)
		l = along(api.Module{Name: "M", Layout: l}, [][]api.DefRename{i.Renames}).Layout
		if got != "" && l != "" && l != got {
			return "", true
		}
		got = max(got, l)
	}
	return got, false
}

// textOf tells the text of parts, whose lists stand in no order and may have things twice.
func textOf(head []string, parts []api.Module) string {
	var kinds [5][]string
	nots := map[api.DefRestrict]api.Set{}
	for _, p := range parts {
		for _, c := range p.Comments {
			kinds[0] = append(kinds[0], c)
		}
		for _, d := range p.Prods {
			kinds[1] = append(kinds[1], deftext.Prod(d))
		}
		for _, r := range p.Restricts {
			of := api.DefRestrict{Name: r.Name, Text: r.Text}
			not := nots[of]
			for i := range not {
				not[i] |= r.Not[i]
			}
			nots[of] = not
		}
		for _, p := range p.Prios {
			kinds[3] = append(kinds[3], deftext.Prio(p))
		}
		for _, s := range p.Scopes {
			kinds[4] = append(kinds[4], deftext.Scope(s))
		}
	}
	for of, not := range nots {
		of.Not = not
		kinds[2] = append(kinds[2], deftext.Restrict(of))
	}
	out := head
	for k, l := range kinds {
		slices.Sort(l)
		for _, line := range slices.Compact(l) {
			if k == 0 {
				line = "comment " + line + ";"
			}
			out = append(out, line)
		}
	}
	return lines(out...)
}

// headOf tells a module's lines ahead of its parts.
func headOf(name, start, layout string, imports ...string) []string {
	out := append([]string{"module " + name + ";"}, imports...)
	if start != "" {
		out = append(out, "start "+start+";")
	}
	if layout != "" {
		out = append(out, "layout "+layout+";")
	}
	return out
}

// compose tells what Compose must answer of modules that may be, no two of one name: the text of the module.
func (m *model) compose(root string) (text, of string, err api.Errno) {
	missing := func(name string) bool { _, there := m.table[name]; return !there }
	if of, is := m.least(root, missing); is {
		return "", of, api.ErrMissing
	}
	circles := func(name string) bool { return m.leads[[2]string{name, name}] }
	if of, is := m.least(root, circles); is {
		return "", of, api.ErrCircle
	}
	clashes := func(name string) bool { _, is := m.layout(name); return is }
	if of, is := m.least(root, clashes); is {
		return "", of, api.ErrClash
	}
	var parts []api.Module
	m.ways(root, nil, func(part api.Module) { parts = append(parts, part) })
	layout, _ := m.layout(root)
	return textOf(headOf(root, m.table[root].Start, layout), parts), "", api.OK
}

func pick[T any](die *rand.Rand, l ...T) T { return l[die.Intn(len(l))] }

func randomSort(die *rand.Rand) string { return pick(die, "S", "T", "U", "V", "W") }

func randomRenaming(die *rand.Rand, most int) []api.DefRename {
	var out []api.DefRename
	for _, k := range die.Perm(5)[:die.Intn(most+1)] {
		out = append(out, api.DefRename{From: "STUVW"[k : k+1], To: randomSort(die)})
	}
	return out
}

// parts are parts of modules in which A, B, C stand for sorts.
func randomPart(die *rand.Rand) string {
	part := pick(die, "lexical A = [a];", "lexical A = B [b]*;", "lexical A = (reject);", `syntax A.C = B "A" C;`, "syntax A.C = { B \"x\" }+ (left) as 1;", "syntax A = B (bracket);",
		"restrict A not [a];", "restrict A not [b-d];", `restrict "A" not [a];`, `restrict "A" not [b];`, "priority A.C;", "priority left A.C B.C > C.A;", "scope A.C { }", "scope A.C { declare 1 A; inner 2; }", "comment A;", "comment A;")
	words := []string{randomSort(die), randomSort(die), randomSort(die)}
	m := read("M; " + part)
	walk(reflect.ValueOf(&m).Elem(), nil, "", func(sort *string) {
		*sort = words[(*sort)[0]-'A']
	})
	text, _ := deftext.Print(m)
	return text[len("module M;\n"):]
}

// randomModule tells a module of a name, that imports some of others.
func randomModule(die *rand.Rand, name string, others []string) api.Module {
	text := name + "; "
	for range die.Intn(4) {
		text += randomPart(die)
	}
	if die.Intn(3) == 0 {
		text += "start " + randomSort(die) + ";"
	}
	if die.Intn(3) == 0 {
		text += "layout " + pick(die, "S", "S", "S", randomSort(die)) + ";"
	}
	m := read(text)
	if len(others) > 0 {
		for range die.Intn(4) {
			m.Imports = append(m.Imports, api.DefImport{Name: pick(die, others...), Renames: randomRenaming(die, 3)})
		}
	}
	return m
}

// randomTable tells modules that mostly import those behind them alone.
func randomTable(die *rand.Rand) []api.Module {
	names := []string{"M", "B", "X", "C", "Z", "A"}[:2+die.Intn(5)]
	var out []api.Module
	for i, name := range names {
		others := names[i+1:]
		if die.Intn(15) == 0 {
			others = append(slices.Clone(names), "Away", "Gone", "A")
		}
		out = append(out, randomModule(die, name, others))
	}
	return out
}

// mixed tells a table in another order, with imports in another order and told twice, and with more that isn't reached.
func mixed(die *rand.Rand, table []api.Module) []api.Module {
	out := []api.Module{randomModule(die, "Unreached", []string{"M", "Unreached", "Never"})}
	for _, m := range table {
		imports := slices.Clone(m.Imports)
		if len(imports) > 0 {
			imports = append(imports, pick(die, imports...))
		}
		die.Shuffle(len(imports), func(i, j int) { imports[i], imports[j] = imports[j], imports[i] })
		m.Imports = imports
		out = append(out, m)
	}
	die.Shuffle(len(out), func(i, j int) { out[i], out[j] = out[j], out[i] })
	return out
}

func TestComposeAsModel(t *testing.T) {
	die := rand.New(rand.NewSource(5))
	told := map[api.Errno]int{}
	for range 6_000 {
		table := randomTable(die)
		m, root := newModel(table), table[0].Name
		text, of, err := m.compose(root)
		told[err]++
		for _, l := range [][]api.Module{table, mixed(die, table)} {
			got, who, e := modules.Compose(root, l...)
			if who != of || e != err || e != api.OK && !reflect.DeepEqual(got, api.Module{}) || e == api.OK && printed(t, got) != text {
				t.Fatalf("P5.1: Compose(%s, %+v):\n%s %q %v, want\n%s %q %v", root, l, brief(got), who, e, text, of, err)
			}
			checkModelReached(t, m, root, l)
			if e == api.OK {
				checkRead(t, got)
			}
		}
	}
	for _, e := range []api.Errno{api.OK, api.ErrMissing, api.ErrCircle, api.ErrClash} {
		if told[e] < 100 {
			t.Errorf("only %d tables with %v", told[e], e)
		}
	}
}

// checkRead asks that a module that was put together may be, and is read as it is told (P0.5); and that its sorts are the model's.
func checkRead(t *testing.T, m api.Module) {
	t.Helper()
	again, _, e := deftext.Parse(printed(t, m))
	if e != api.OK || !deftext.Same(again, m) {
		t.Errorf("P5.3: read again: %s %v, want %s", brief(again), e, brief(m))
	}
	var want []string
	walk(reflect.ValueOf(&again).Elem(), nil, "", func(sort *string) { want = append(want, *sort) })
	slices.Sort(want)
	if got := modules.Sorts(m); !slices.Equal(got, slices.Compact(want)) {
		t.Errorf("P5.2: Sorts(%s): %v, want %v", brief(m), got, want)
	}
}

// checkModelReached holds Reached against the model.
func checkModelReached(t *testing.T, m *model, root string, table []api.Module) {
	t.Helper()
	want, err := []string{root}, api.OK
	for way := range m.leads {
		if way[0] == root && way[1] != root {
			want = append(want, way[1])
		}
	}
	slices.Sort(want)
	if slices.ContainsFunc(want, func(name string) bool { _, there := m.table[name]; return !there }) {
		want, err = nil, api.ErrMissing
	}
	if got, e := modules.Reached(root, table...); !slices.Equal(got, want) || e != err {
		t.Errorf("P5.1: Reached(%s): %v %v, want %v %v", root, got, e, want, err)
	}
}

func TestRenameAndUnionAsModel(t *testing.T) {
	die := rand.New(rand.NewSource(55))
	for range 4_000 {
		a, b := randomModule(die, "A", []string{"C", "D"}), randomModule(die, "B", []string{"E"})
		renaming := randomRenaming(die, 5)
		got, e := modules.Rename(a, renaming...)
		want := along(a, [][]api.DefRename{renaming})
		if e != api.OK || printed(t, got) != textOf(headOf("A", want.Start, want.Layout, importLines(a)...), []api.Module{want}) {
			t.Fatalf("P5.2: Rename(%+v, %v): %s %v", a, renaming, brief(got), e)
		}
		there, _ := modules.Rename(a, pairs("S=S2 T=T2 U=U2 V=V2 W=W2")...)
		back, _ := modules.Rename(there, pairs("W2=W T2=T U2=U V2=V S2=S")...)
		inOrder, _ := modules.Rename(a)
		if !deftext.Same(back, inOrder) || !deftext.Same(modules.Union(a, a), inOrder) {
			t.Fatalf("P5.3: %+v there and back: %s, put in order: %s", a, brief(back), brief(inOrder))
		}
		checkModelUnion(t, a, b)
		checkModelUnion(t, b, a)
	}
}

// importLines tells a module's imports.
func importLines(m api.Module) []string {
	var out []string
	for _, i := range m.Imports {
		text, _ := deftext.Print(api.Module{Name: "M", Imports: []api.DefImport{i}})
		out = append(out, text[len("module M;\n"):len(text)-1])
	}
	return out
}

func checkModelUnion(t *testing.T, a, b api.Module) {
	t.Helper()
	layout := a.Layout
	if layout == "" {
		layout = b.Layout
	}
	got := modules.Union(a, b)
	if want := textOf(headOf(a.Name, a.Start, layout, importLines(a)...), []api.Module{b, a}); printed(t, got) != want {
		t.Fatalf("P5.2: Union(%+v, %+v):\n%swant\n%s", a, b, printed(t, got), want)
	}
	checkRead(t, got)
	other := modules.Union(b, a)
	other.Name, other.Start, other.Layout, other.Imports = got.Name, got.Start, got.Layout, got.Imports
	if !deftext.Same(got, other) {
		t.Fatalf("P5.3: Union of both orders: %s and %s", brief(got), brief(other))
	}
}
