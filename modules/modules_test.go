package modules_test

import (
	"fmt"
	"reflect"
	"slices"
	"strconv"
	"strings"
	"testing"

	"rosetta/api"
	"rosetta/deftext"
	"rosetta/modules"
	"rosetta/sets"
)

// The calls' signatures, as the chapter lists them.
var (
	_ func(string, ...api.Module) (api.Module, string, api.Errno) = modules.Compose
	_ func(string, ...api.Module) ([]string, api.Errno)           = modules.Reached
	_ func(api.Module, ...api.DefRename) (api.Module, api.Errno)  = modules.Rename
	_ func(a, b api.Module) api.Module                            = modules.Union
	_ func(api.Module) []string                                   = modules.Sorts
)

// brief tells a value, cut short.
func brief(v any) string {
	s := fmt.Sprintf("%+v", v)
	return s[:min(len(s), 600)]
}

// read tells the module that a text says behind its name.
func read(text string) api.Module {
	m, at, e := deftext.Parse("module " + text)
	if e != api.OK {
		panic(fmt.Sprint(text, at, e))
	}
	return m
}

// tableOf tells the modules that texts say.
func tableOf(texts ...string) []api.Module {
	var out []api.Module
	for _, text := range texts {
		out = append(out, read(text))
	}
	return out
}

// printed tells a module's text.
func printed(t *testing.T, m api.Module) string {
	t.Helper()
	text, e := deftext.Print(m)
	if e != api.OK {
		t.Errorf("a module that may not be: %s", brief(m))
	}
	return text
}

// lines tells a text of lines.
func lines(l ...string) string {
	return strings.Join(l, "\n") + "\n"
}

// checkCompose asks that the root put together has this text, behind its name.
func checkCompose(t *testing.T, root string, table []api.Module, want ...string) {
	t.Helper()
	m, of, e := modules.Compose(root, table...)
	if of != "" || e != api.OK || m.Imports != nil {
		t.Errorf("P5.1: Compose(%s): %s %q %v", root, brief(m), of, e)
		return
	}
	if got := printed(t, m); got != lines(append([]string{"module " + root + ";"}, want...)...) {
		t.Errorf("P5.1: Compose(%s):\n%swant\n%s", root, got, lines(want...))
	}
}

// checkRefused asks that Compose refuses, and so does Reached, up to ErrMissing.
func checkRefused(t *testing.T, root string, table []api.Module, of string, want api.Errno) {
	t.Helper()
	m, who, e := modules.Compose(root, table...)
	if who != of || e != want || !reflect.DeepEqual(m, api.Module{}) {
		t.Errorf("P5.1: Compose(%s): %s %q %v, want %q %v", brief(root), brief(m), who, e, of, want)
	}
	names, e := modules.Reached(root, table...)
	if want == api.ErrCircle || want == api.ErrClash {
		want = api.OK
	}
	if e != want || e == api.OK && !slices.Contains(names, root) || e != api.OK && names != nil {
		t.Errorf("P5.1: Reached(%s): %v %v, want %v", brief(root), names, e, want)
	}
}

// checkLong asks that Compose refuses a module that is put together, and Reached doesn't.
func checkLong(t *testing.T, root string, table []api.Module) {
	t.Helper()
	if m, of, e := modules.Compose(root, table...); of != "" || e != api.ErrLong || !reflect.DeepEqual(m, api.Module{}) {
		t.Errorf("P5.1: Compose(%s): %s %q %v, want ErrLong", root, brief(m), of, e)
	}
	if names, e := modules.Reached(root, table...); e != api.OK || !slices.Contains(names, root) {
		t.Errorf("P5.1: Reached(%s): %v %v", root, names, e)
	}
}

func checkReached(t *testing.T, root string, table []api.Module, want string) {
	t.Helper()
	names, e := modules.Reached(root, table...)
	if e != api.OK || strings.Join(names, " ") != want {
		t.Errorf("P5.1: Reached(%s): %v %v, want %s", root, names, e, want)
	}
}

// The chapter's own examples.
func TestExamples(t *testing.T) {
	table := tableOf("A; lexical Id = [a-z]+;", "B; import A (Id = Name);", "C; import B; import D;", "E; import E;")
	checkCompose(t, "B", table, "lexical Name = [a-z]+;")
	m, _, _ := modules.Compose("B", table...)
	if s := modules.Sorts(m); !slices.Equal(s, []string{"Name"}) {
		t.Errorf("P5.2: Sorts: %v", s)
	}
	checkRefused(t, "C", table, "D", api.ErrMissing)
	checkRefused(t, "A", append(table, read("A;")), "", api.ErrThere)
	checkReached(t, "B", table, "A B")
	checkRefused(t, "E", table, "E", api.ErrCircle)
	checkReached(t, "E", table, "E")
}

// The whole's seventh and eighth example.
func TestExamplesOfTheWhole(t *testing.T) {
	table := tableOf(`M; start E; layout L; lexical L = [\x20]+; restrict L not [\x20]; lexical Id = [a-z]+; restrict Id not [a-z]; lexical Id = "let" (reject); lexical Id = "in" (reject);
		syntax E.Let = "let" Id "=" E "in" E; syntax E.Ref = Id; syntax E.Add = E "+" E (left); priority E.Add > E.Let; scope E.Let { declare own 1 Var; inner 3; } scope E.Ref { use 1 Var; }`,
		"N; import M (E = F); start F;", "O; import M; import Away; import Absent;", "P; import Q;", "Q; import P;")
	checkCompose(t, "N", table, "start F;", "layout L;",
		`lexical Id = "in" (reject);`, `lexical Id = "let" (reject);`, `lexical Id = [a-z]+;`, `lexical L = [\x20]+;`,
		`syntax F.Add = F "+" F (left);`, `syntax F.Let = "let" Id "=" F "in" F;`, `syntax F.Ref = Id;`,
		`restrict Id not [a-z];`, `restrict L not [\x20];`, `priority F.Add > F.Let;`,
		`scope F.Let { declare own 1 Var; inner 3; }`, `scope F.Ref { use 1 Var; }`)
	checkRefused(t, "O", table, "Absent", api.ErrMissing)
	checkRefused(t, "Q", table, "P", api.ErrCircle)
}

// noNames tells what is no name of a module or of a sort.
func noNames() []string {
	out := []string{"", "1", "1a", "a b", "A.B", " A", "A ", "A;", "a\x00", "\xff", "\u00e4", `"A"`, "[a]", strings.Repeat("n", 65), strings.Repeat("n", 1<<21)}
	reserved := "module import start layout comment lexical reject syntax as restrict not priority prefer avoid bracket left right non soft line in out scope declare use own inner"
	return append(out, strings.Fields(reserved)...)
}

// badModules tells modules that layer 4 refuses, or that have an import with two renamings of one sort.
func badModules() []api.Module {
	out := []api.Module{
		{}, {Name: "1"}, {Name: "start"}, {Name: "X", Start: "1"}, {Name: "X", Comments: []string{""}}, {Name: "X", Prods: []api.DefProd{{}}}, {Name: "X", Restricts: []api.DefRestrict{{}}},
		{Name: "X", Prios: []api.DefPrio{{}}}, {Name: "X", Scopes: []api.DefScope{{}}}, {Name: "X", Imports: []api.DefImport{{}}},
		{Name: "X", Imports: []api.DefImport{{Name: "A", Renames: []api.DefRename{{From: "A"}}}}},
		{Name: "X", Imports: slices.Repeat([]api.DefImport{{Name: "A"}}, api.MaxModules+1)},
		{Name: "X", Comments: slices.Repeat([]string{"A"}, api.MaxProds+1)},
	}
	return append(out, tableOf("X; import A (S = T, S = U);", "X; import A (S = T, S = T);", "X; import A (S = S, T = U, S = V);", "X; import A; import A (U = V, U = U);", "X; import Away (S = T, S = U);")...)
}

func TestErrArg(t *testing.T) {
	fine := tableOf("A; lexical Id = [a-z];", "B; import A;")
	full := fullTable(api.MaxModules + 1)
	for _, root := range noNames() {
		checkRefused(t, root, nil, "", api.ErrArg)
		checkRefused(t, root, fine, "", api.ErrArg)
		checkRefused(t, root, full, "", api.ErrArg)                                      // ahead of ErrLong
		checkRefused(t, root, append(fine, fine...), "", api.ErrArg)                     // ahead of ErrThere
		checkRefused(t, root, tableOf("A; import Away; import A;"), "", api.ErrArg)      // ahead of what is reached
		checkRefused(t, root, []api.Module{{Name: root}, read("A;")}, "", api.ErrArg)    // though one has that name
		checkRefused(t, "A", []api.Module{{Name: root}, read("A;")}, "", api.ErrArg)     // not reached
		checkRefused(t, "B", append(fine[:2:2], api.Module{Name: root}), "", api.ErrArg) // not reached, the last one
	}
	for _, bad := range badModules() {
		checkRefused(t, "X", append(fine[:2:2], bad), "", api.ErrArg)
		checkRefused(t, "B", append(fine[:2:2], bad), "", api.ErrArg) // not reached
		checkRefused(t, "B", append([]api.Module{bad}, fine...), "", api.ErrArg)
		checkRefused(t, "M0", append(full[:len(full):len(full)], bad), "", api.ErrArg)
		checkRefused(t, "A", []api.Module{fine[0], fine[0], bad}, "", api.ErrArg)
		checkRefused(t, "Away", []api.Module{bad}, "", api.ErrArg)
		checkRefused(t, "E", append(tableOf("E; import E; import Away;"), bad), "", api.ErrArg)
	}
}

// fullTable tells a table of so many modules: M0 imports the ones behind it, as far as it can, and each has a sort of its own.
func fullTable(count int) []api.Module {
	var out []api.Module
	for i := range count {
		out = append(out, read(fmt.Sprintf("M%d; lexical S%d = [a];", i, i)))
	}
	for i := 1; i < min(count, api.MaxModules+1); i++ {
		out[0].Imports = append(out[0].Imports, api.DefImport{Name: out[i].Name})
	}
	return out
}

func TestMaxModules(t *testing.T) {
	table := fullTable(api.MaxModules)
	m, of, e := modules.Compose("M0", table...)
	if of != "" || e != api.OK || len(m.Prods) != api.MaxModules {
		t.Errorf("P5.1: Compose of %d: %s %q %v", api.MaxModules, brief(m), of, e)
	}
	if names, e := modules.Reached("M0", table...); e != api.OK || len(names) != api.MaxModules || !slices.IsSorted(names) {
		t.Errorf("P5.1: Reached of %d: %v %v", api.MaxModules, names, e)
	}
	checkRefused(t, "Away", table, "Away", api.ErrMissing)
	for _, count := range []int{api.MaxModules + 1, 3 * api.MaxModules} {
		table := fullTable(count)
		checkRefused(t, "M1", table, "", api.ErrLong)
		checkRefused(t, "Away", table, "", api.ErrLong)                                     // ahead of ErrMissing
		checkRefused(t, "M0", slices.Repeat(table[1:2], count), "", api.ErrLong)            // ahead of ErrThere
		checkRefused(t, "E", append(table[1:], read("E; import E;")), "", api.ErrLong)      // ahead of ErrCircle
		checkRefused(t, "K", append(table[2:], clashing("K")...), "", api.ErrLong)          // ahead of ErrClash
		checkRefused(t, "M0", append(table[1:], read("M0; import Away;")), "", api.ErrLong) // ahead of ErrMissing
	}
	checkRefused(t, "M0", fullTable(api.MaxModules + 1)[:api.MaxModules], "M64", api.ErrMissing)
}

// clashing tells a module of that name that clashes, and what it imports.
func clashing(name string) []api.Module {
	return tableOf(name+"; import ClashX; import ClashY;", "ClashX; layout X;", "ClashY; layout Y;")
}

func TestErrThere(t *testing.T) {
	table := tableOf("A; lexical Id = [a-z];", "B; import A;", "E; import E; import Away;")
	for _, twice := range []string{"A;", "A; lexical Id = [a-z];", "A; import Away;"} {
		for place := range len(table) + 1 {
			checkRefused(t, "B", slices.Insert(slices.Clone(table), place, read(twice)), "", api.ErrThere)
		}
	}
	checkRefused(t, "A", append(table, read("B;")), "", api.ErrThere) // not reached
	checkRefused(t, "Away", append(table, read("B;")), "", api.ErrThere)
	checkRefused(t, "E", append(table, read("B;")), "", api.ErrThere)
	checkRefused(t, "K", append(clashing("K"), read("ClashX; layout X;")), "", api.ErrThere)
	checkCompose(t, "b", tableOf("b; lexical S = [a];", "B; lexical S = [b];"), "lexical S = [a];")
}

func TestErrMissing(t *testing.T) {
	checkRefused(t, "Q", nil, "Q", api.ErrMissing)
	checkRefused(t, "Q", []api.Module{}, "Q", api.ErrMissing)
	long := strings.Repeat("n", api.MaxName)
	checkRefused(t, long, nil, long, api.ErrMissing)
	table := tableOf("A; import Z; import B;", "B; import Y; import C (S = T);", "C; import X; import Y; import D;", "D; import D; import C;", "U; import T; import A;", "Ok; lexical S = [a];")
	checkRefused(t, "A", table, "X", api.ErrMissing) // beside circles, that stand ahead by name
	checkRefused(t, "B", table, "X", api.ErrMissing)
	checkRefused(t, "U", table, "T", api.ErrMissing)
	checkRefused(t, "a", table, "a", api.ErrMissing)
	checkCompose(t, "Ok", table, "lexical S = [a];")
	clash := clashing("K")
	clash[0].Imports = append(clash[0].Imports, api.DefImport{Name: "Z9"}, api.DefImport{Name: "Z10"})
	checkRefused(t, "K", clash, "Z10", api.ErrMissing) // ahead of ErrClash; by bytes, not as numbers
	big := append(overfull("Big"), read("R; import Big; import Away;"))
	checkRefused(t, "R", big, "Away", api.ErrMissing) // ahead of ErrLong of what is put together
}

func TestErrCircle(t *testing.T) {
	table := tableOf("A; import D; import Leaf;", "D; import C;", "C; import E;", "E; import D; import Leaf;", "Leaf; lexical S = [a];", "Self; import Leaf; import Self;", "Z; import Leaf;", "Two; import Self; import A;", "M; import N;", "N; import M;", "L; import N;")
	checkRefused(t, "A", table, "C", api.ErrCircle) // A is on none
	checkRefused(t, "D", table, "C", api.ErrCircle)
	checkRefused(t, "E", table, "C", api.ErrCircle)
	checkRefused(t, "Self", table, "Self", api.ErrCircle)
	checkRefused(t, "Two", table, "C", api.ErrCircle)
	checkRefused(t, "M", table, "M", api.ErrCircle)
	checkRefused(t, "N", table, "M", api.ErrCircle)
	checkRefused(t, "L", table, "M", api.ErrCircle)
	checkCompose(t, "Z", table, "lexical S = [a];") // the circles aren't reached
	checkReached(t, "A", table, "A C D E Leaf")
	checkReached(t, "N", table, "M N")
	checkReached(t, "L", table, "L M N")
	checkReached(t, "Two", table, "A C D E Leaf Self Two")
	checkReached(t, "Z", table, "Leaf Z")
	checkReached(t, "Leaf", table, "Leaf")
	checkRefused(t, "R", tableOf("R; import R (S = T);"), "R", api.ErrCircle)
	checkRefused(t, "R", append(overfull("Big"), tableOf("R; import Big; import Z;", "Z; import Z;")...), "Z", api.ErrCircle)          // ahead of ErrLong
	checkRefused(t, "R", append(clashing("K"), tableOf("R; import K; import Z;", "Z; import Z;")...), "Z", api.ErrCircle)              // ahead of ErrClash
	checkCompose(t, "R", tableOf("R; import A; import B;", "A; import C;", "B; import C;", "C; lexical S = [a];"), "lexical S = [a];") // no circle: it is come to twice
}

// A chain of as many modules as may be, and one that closes it.
func TestLongChain(t *testing.T) {
	var table []api.Module
	for i := range api.MaxModules {
		table = append(table, read(fmt.Sprintf("M%02d; import M%02d (S = S%d); lexical S = [a];", i, i+1, i)))
	}
	last := len(table) - 1
	checkRefused(t, "M00", table, "M64", api.ErrMissing)
	table[last].Imports[0].Name = "M03"
	checkRefused(t, "M00", table, "M03", api.ErrCircle)
	checkRefused(t, "M50", table, "M03", api.ErrCircle)
	table[last].Imports = nil
	m, of, e := modules.Compose("M00", table...)
	if of != "" || e != api.OK || len(m.Prods) != api.MaxModules || len(modules.Sorts(m)) != api.MaxModules {
		t.Errorf("P5.1: Compose of a chain: %s %q %v", brief(m), of, e)
	}
}

// A module that is come to in very many ways is put together once.
func TestManyWays(t *testing.T) {
	var table []api.Module
	for i := range api.MaxModules {
		m := read(fmt.Sprintf("M%d; lexical S%d = [a]; syntax E.A = E%d;", i, i, i))
		for j := i + 1; j < api.MaxModules; j++ {
			m.Imports = append(m.Imports, api.DefImport{Name: fmt.Sprintf("M%d", j)})
		}
		table = append(table, m)
	}
	m, of, e := modules.Compose("M0", table...)
	if of != "" || e != api.OK || len(m.Prods) != 2*api.MaxModules {
		t.Errorf("P5.1: Compose: %s %q %v", brief(m), of, e)
	}
	for i := range table { // each imports all others, and itself
		table[i].Imports = nil
		for j := range table {
			table[i].Imports = append(table[i].Imports, api.DefImport{Name: table[j].Name})
		}
	}
	checkRefused(t, "M7", table, "M0", api.ErrCircle)
}

// overfull tells a module of that name that has, put together, one production more than may be, and what it imports.
func overfull(name string) []api.Module {
	a, b := read(name+"; import BigB;"), read("BigB; lexical Last = [a];")
	for i := range api.MaxProds {
		a.Prods = append(a.Prods, api.DefProd{Lexical: true, Sort: "S" + strconv.Itoa(i)})
	}
	return []api.Module{a, b}
}

// fillers tells ways to give a module one more of something, of a sort.
func fillers() []func(m *api.Module, sort string) {
	return []func(m *api.Module, sort string){
		func(m *api.Module, sort string) {
			m.Prods = append(m.Prods, api.DefProd{Sort: sort, Cons: "C"})
		},
		func(m *api.Module, sort string) {
			m.Prods = append(m.Prods, api.DefProd{Lexical: true, Sort: "X", Right: []api.DefSym{{Name: sort}}})
		},
		func(m *api.Module, sort string) {
			m.Restricts = append(m.Restricts, api.DefRestrict{Name: sort, Not: sets.Of('a')})
		},
		func(m *api.Module, sort string) {
			m.Prios = append(m.Prios, api.DefPrio{Groups: []api.DefGroup{{Names: []api.DefName{{Sort: sort, Cons: "C"}}}}})
		},
		func(m *api.Module, sort string) {
			m.Scopes = append(m.Scopes, api.DefScope{Of: api.DefName{Sort: sort, Cons: "C"}})
		},
		func(m *api.Module, sort string) { m.Comments = append(m.Comments, sort) },
	}
}

// filled tells a module with a number of somethings, of sorts S<from>, S<from+1> ..
func filled(text string, fill func(*api.Module, string), from, count int) api.Module {
	m := read(text)
	for i := range count {
		fill(&m, "S"+strconv.Itoa(from+i))
	}
	return m
}

func count(m api.Module) int {
	return len(m.Prods) + len(m.Restricts) + len(m.Prios) + len(m.Scopes) + len(m.Comments)
}

func TestMaxProds(t *testing.T) {
	const most = api.MaxProds
	for _, fill := range fillers() {
		fits := func(root string, table ...api.Module) {
			t.Helper()
			if m, of, e := modules.Compose(root, table...); of != "" || e != api.OK || count(m) != most {
				t.Errorf("P5.1: Compose(%s): %d %q %v", root, count(m), of, e)
			}
		}
		a, b := filled("A;", fill, 0, most), filled("B; import A;", fill, 0, most)
		fits("A", a)
		fits("B", a, b)                                                           // all of them are one
		fits("B", a, filled("B; import A;", fill, most-1, 1))                     // one is there already
		checkLong(t, "B", []api.Module{a, filled("B; import A;", fill, most, 1)}) // one past it
		fits("B", filled("A;", fill, 0, 400), filled("B; import A; import C;", fill, 400, 300), filled("C;", fill, 700, 300))
		checkLong(t, "B", []api.Module{filled("A;", fill, 0, 400), filled("B; import A; import C;", fill, 400, 300), filled("C;", fill, 700, 301)})
		fits("B", a, filled("B; import A (S7 = T, S8 = T);", fill, 7, 1))                       // two are one, renamed
		checkLong(t, "B", []api.Module{a, filled("B; import A (S7 = T, S8 = T);", fill, 7, 2)}) // two are one, and two more
		// What is put together counts ahead of the renaming that would make one of two; and also below the root.
		long := filled("A; import B;", fill, 0, most)
		checkLong(t, "R", []api.Module{long, filled("B;", fill, most, 1), read("R; import A (S0 = S1000);")})
		fits("A", long, filled("B;", fill, most-1, 1))
		fits("R", long, filled("B;", fill, most, 1), filled("R; import B;", fill, 0, most-1))                       // A isn't reached
		checkLong(t, "R", append(clashing("K"), long, filled("B;", fill, most, 1), read("R; import K; import A;"))) // ahead of ErrClash
	}
}
