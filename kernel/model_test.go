package kernel_test

import (
	"fmt"
	"math"
	"math/rand"
	"reflect"
	"slices"
	"strings"
	"testing"

	"rosetta/api"
	"rosetta/kernel"
	"rosetta/sets"
)

func pick[T any](die *rand.Rand, l ...T) T { return l[die.Intn(len(l))] }

// randomGrammar tells a small grammar that may be, by numbers that are known again: each production's From is its own.
func randomGrammar(die *rand.Rand) api.Grammar {
	g := api.Grammar{Sorts: []string{"S", "A", "B", "C", "D"}[:1+die.Intn(5)]}
	count := len(g.Sorts)
	g.Start = die.Intn(count)
	for i := range die.Intn(9) {
		p := api.Prod{Left: die.Intn(count), Role: pick(die, api.RoleCons, api.RoleInject, api.RoleMore, api.RoleReject), From: i}
		for range die.Intn(3) {
			s := set(pick(die, "a", "b", "ab"))
			if p.Role != api.RoleReject && die.Intn(3) > 0 {
				s = sort(die.Intn(count))
			}
			p.Right = append(p.Right, s)
		}
		if p.Role == api.RoleCons {
			p.Cons = pick(die, "", "X", "Y")
		}
		p.Prefer = die.Intn(4) == 0
		p.Avoid = !p.Prefer && die.Intn(4) == 0
		g.Prods = append(g.Prods, p)
	}
	for _, k := range die.Perm(count)[:die.Intn(count+1)] {
		g.Follow = append(g.Follow, api.Follow{Sort: k, Not: sets.Of(pick[byte](die, 'a', 'b'))})
	}
	g.Forbid = randomForbids(die, g.Prods)
	return g
}

// randomForbids tells some of all that may be.
func randomForbids(die *rand.Rand, prods []api.Prod) []api.Forbid {
	var out []api.Forbid
	for parent, p := range prods {
		for i, s := range p.Right {
			for child, c := range prods {
				if s.Kind == api.SymSort && s.Sort == c.Left && c.Role != api.RoleReject && die.Intn(3) == 0 {
					out = append(out, api.Forbid{Parent: parent, At: i + 1, Child: child})
				}
			}
		}
	}
	die.Shuffle(len(out), func(i, j int) { out[i], out[j] = out[j], out[i] })
	return out
}

// bendSomewhere changes one of all numbers, texts, bools that stand in a value, or one of its lists.
func bendSomewhere(die *rand.Rand, v any) {
	var all []reflect.Value
	var walk func(v reflect.Value)
	walk = func(v reflect.Value) {
		switch v.Kind() {
		case reflect.Struct:
			for i := range v.NumField() {
				walk(v.Field(i))
			}
		case reflect.Slice:
			all = append(all, v)
			fallthrough
		case reflect.Array:
			for i := range v.Len() {
				walk(v.Index(i))
			}
		default:
			all = append(all, v)
		}
	}
	walk(reflect.ValueOf(v).Elem())
	switch v := pick(die, all...); v.Kind() {
	case reflect.Int:
		v.SetInt(pick(die, v.Int()-1, v.Int()+1, 0, 1, 2, -1, -2, 1000, math.MaxInt64, math.MinInt64))
	case reflect.Uint64, reflect.Uint8:
		v.SetUint(pick[uint64](die, 0, 1, 'a', 'b', math.MaxUint8))
	case reflect.String:
		v.SetString(pick(die, "", "S", "A", "E", strings.Repeat("n", 64), strings.Repeat("n", 65), strings.Repeat("n", 1001)))
	case reflect.Bool:
		v.SetBool(!v.Bool())
	case reflect.Slice:
		switch n := v.Len(); {
		case n > 0 && die.Intn(2) == 0: // one less
			v.Set(reflect.AppendSlice(v.Slice3(0, n-1, n-1), v.Slice(n, n)))
		case n > 0 && die.Intn(2) == 0: // one twice
			v.Set(reflect.Append(v.Slice3(0, n, n), v.Index(die.Intn(n))))
		default: // a zero one more
			v.Set(reflect.Append(v.Slice3(0, n, n), reflect.Zero(v.Type().Elem())))
		}
	}
}

// faults tells all that the chapter finds wrong with a grammar.
func faults(g api.Grammar) []string {
	var out []string
	wrong := func(is bool, what string, of ...any) {
		if is {
			out = append(out, what+fmt.Sprint(of...))
		}
	}
	sorts, prods := len(g.Sorts), len(g.Prods)
	wrong(sorts == 0, "no sort")
	wrong(sorts > 1000 || prods > 1000, "too many")
	wrong(g.Start < 0 || g.Start >= sorts, "start", g.Start)
	for i, name := range g.Sorts {
		wrong(name == "" || len(name) > 1000 || slices.Index(g.Sorts, name) < i, "name", i)
	}
	for i, p := range g.Prods {
		wrong(p.Left < 0 || p.Left >= sorts, "left", i)
		wrong(len(p.Right) > 30, "right", i)
		wrong(p.Role < 0 || p.Role > 11, "role", i)
		wrong(p.From < -1, "from", i)
		wrong(len(p.Cons) > 64 || p.Cons != "" && p.Role != 0, "cons", i)
		wrong(p.Prefer && p.Avoid, "both", i)
		for k, s := range p.Right {
			empty := s.Set == [4]uint64{}
			wrong(s.Kind < 0 || s.Kind > 1, "kind", i, k)
			wrong(s.Kind == 0 && (empty || s.Sort != 0), "set", i, k)
			wrong(s.Kind == 1 && (!empty || s.Sort < 0 || s.Sort >= sorts), "sort", i, k)
			wrong(p.Role == 11 && s.Kind != 0, "reject", i, k)
		}
	}
	for i, f := range g.Forbid {
		wrong(slices.Index(g.Forbid, f) < i, "twice", i)
		if f.Parent < 0 || f.Parent >= prods || f.Child < 0 || f.Child >= prods {
			wrong(true, "forbid", i)
			continue
		}
		parent, child := g.Prods[f.Parent], g.Prods[f.Child]
		wrong(parent.Role == 11 || child.Role == 11, "rejected", i)
		if f.At < 1 || f.At > len(parent.Right) {
			wrong(true, "at", i)
			continue
		}
		wrong(parent.Right[f.At-1] != api.Sym{Kind: 1, Sort: child.Left}, "child", i)
	}
	for i, f := range g.Follow {
		wrong(f.Sort < 0 || f.Sort >= sorts || f.Not == [4]uint64{}, "follow", i)
		for _, other := range g.Follow[:i] {
			wrong(other.Sort == f.Sort, "follows", i)
		}
	}
	return out
}

// nesting tells of each sort how deep its flattest trees are nested, bytes not counted; 0 of one that has none.
func nesting(g api.Grammar) []int {
	out := make([]int, len(g.Sorts))
	for deep := 1; deep <= len(g.Sorts); deep++ {
		for _, p := range g.Prods {
			fits := p.Role != api.RoleReject && out[p.Left] == 0
			for _, s := range p.Right {
				fits = fits && (s.Kind == api.SymSet || 0 < out[s.Sort] && out[s.Sort] < deep)
			}
			if fits {
				out[p.Left] = deep
			}
		}
	}
	return out
}

// leads tells of each sort whether the Start leads to it: over ways of rising length.
func leads(g api.Grammar) []bool {
	out := make([]bool, len(g.Sorts))
	out[g.Start] = true
	for range g.Sorts {
		for _, p := range g.Prods {
			for _, s := range p.Right {
				if out[p.Left] && p.Role != api.RoleReject && s.Kind == api.SymSort {
					out[s.Sort] = true
				}
			}
		}
	}
	return out
}

// modelWell tells what Well must answer of a grammar that may be.
func modelWell(g api.Grammar) (api.Errno, int) {
	if dead := slices.Index(nesting(g), 0); dead >= 0 {
		return api.ErrDead, dead
	}
	if apart := slices.Index(leads(g), false); apart >= 0 {
		return api.ErrApart, apart
	}
	return api.OK, 0
}

func TestCheckAsModel(t *testing.T) {
	die := rand.New(rand.NewSource(6))
	told := map[api.Errno]int{}
	for range 10_000 {
		g := randomGrammar(die)
		if l := faults(g); l != nil {
			t.Fatalf("%+v: %v", g, l)
		}
		for range die.Intn(3) {
			bendSomewhere(die, &g)
		}
		l := faults(g)
		checkRefusals(t, fmt.Sprintf("%+v: %v", g, l), g, l == nil)
		if l != nil {
			told[api.ErrGrammar]++
		} else {
			e, n := modelWell(g)
			checkWell(t, g, e, n)
			told[e]++
		}
		if t.Failed() {
			return
		}
	}
	for _, e := range []api.Errno{api.OK, api.ErrGrammar, api.ErrDead, api.ErrApart} {
		if told[e] < 300 {
			t.Errorf("only %d grammars with %v", told[e], e)
		}
	}
}

// treesOf tells, by sorts, all trees of a grammar that are nested at most so deep; and whether they are few.
func treesOf(g api.Grammar, deep int) ([][]api.Tree, bool) {
	out := make([][]api.Tree, len(g.Sorts))
	if deep == 0 {
		return out, true
	}
	flatter, few := treesOf(g, deep-1)
	if !few {
		return nil, false
	}
	for n, p := range g.Prods {
		if p.Role == api.RoleReject {
			continue
		}
		lists := [][]api.Tree{nil} // the kids of each tree
		for _, s := range p.Right {
			var stand []api.Tree
			if s.Kind == api.SymSort {
				stand = flatter[s.Sort]
			} else if deep > 1 {
				for b := range 256 {
					if sets.Has(s.Set, byte(b)) {
						stand = append(stand, byteTree(byte(b)))
					}
				}
			}
			var longer [][]api.Tree
			for _, kids := range lists {
				for _, kid := range stand {
					longer = append(longer, append(slices.Clone(kids), kid))
				}
			}
			if lists = longer; len(lists) > 200 {
				return nil, false
			}
		}
		for _, kids := range lists {
			out[p.Left] = append(out[p.Left], node(n, kids...))
		}
	}
	return out, true
}

// keys tells trees as texts, in order, their productions by their From; and which bytes they have.
func keys(g api.Grammar, trees []api.Tree) []string {
	var out []string
	for _, t := range trees {
		key, text := keyOf(g, t)
		out = append(out, key+" "+text)
	}
	slices.Sort(out)
	return out
}

func keyOf(g api.Grammar, t api.Tree) (key, text string) {
	if t.Prod < 0 {
		return fmt.Sprintf("%q", t.Byte), string([]byte{t.Byte})
	}
	for _, kid := range t.Kids {
		k, x := keyOf(g, kid)
		key, text = key+" "+k, text+x
	}
	return fmt.Sprintf("%d(%s)", g.Prods[t.Prod].From, key), text
}

// P6.3, P6.5: what is trimmed is well formed, has no more than what is of use and all of that, in order, and the same trees.
func TestTrimAsModel(t *testing.T) {
	die := rand.New(rand.NewSource(65))
	compared, refusals, smaller := 0, 0, 0
	for range 6_000 {
		g := randomGrammar(die)
		got, e := kernel.Trim(g)
		if nesting(g)[g.Start] == 0 {
			if refusals++; e != api.ErrDead || !reflect.DeepEqual(got, api.Grammar{}) {
				t.Fatalf("P6.3: Trim(%+v): %+v %v", g, got, e)
			}
			continue
		}
		if well, n := kernel.Well(got); e != api.OK || well != api.OK {
			t.Fatalf("P6.5: Trim(%+v): %+v %v: %v %d", g, got, e, well, n)
		}
		if want := modelTrim(g); !kernel.Same(got, want) {
			t.Fatalf("P6.3: Trim(%+v):\n%+v, want\n%+v", g, got, want)
		}
		if well, _ := modelWell(g); kernel.Same(got, g) != (well == api.OK) {
			t.Fatalf("P6.5: Trim(%+v): %+v", g, got)
		}
		if !kernel.Same(got, g) {
			smaller++
		}
		old, few := treesOf(g, 5)
		now, _ := treesOf(got, 5)
		if !few {
			continue
		}
		if len(old[g.Start]) > 1 && len(got.Prods) < len(g.Prods) {
			compared++
		}
		if a, b := keys(g, old[g.Start]), keys(got, now[got.Start]); !slices.Equal(a, b) {
			t.Fatalf("P6.5: Trim(%+v): %+v: trees %v, want %v", g, got, b, a)
		}
	}
	if compared < 200 || refusals < 200 || smaller < 200 {
		t.Errorf("only %d compared, %d refused, %d smaller", compared, refusals, smaller)
	}
}

// modelTrim tells what Trim must answer of a grammar whose Start is productive: first without what is dead, by names and Froms, then without what is apart.
func modelTrim(g api.Grammar) api.Grammar {
	deep := nesting(g)
	g = without(g, func(sort int) bool { return deep[sort] == 0 })
	reached := leads(g)
	return without(g, func(sort int) bool { return !reached[sort] })
}

// without leaves sorts out, the productions that have one, and Forbids and Follows of them. Sorts and productions are told by what does not change: their names, their Froms.
func without(g api.Grammar, goes func(sort int) bool) api.Grammar {
	var out api.Grammar
	for n, name := range g.Sorts {
		if !goes(n) {
			out.Sorts = append(out.Sorts, name)
		}
	}
	place := func(sort int) int { return slices.Index(out.Sorts, g.Sorts[sort]) }
	out.Start = place(g.Start)
	for _, p := range g.Prods {
		p.Left, p.Right = place(p.Left), slices.Clone(p.Right)
		stays := p.Left >= 0
		for i, s := range p.Right {
			if s.Kind == api.SymSort {
				p.Right[i].Sort = place(s.Sort)
				stays = stays && place(s.Sort) >= 0
			}
		}
		if stays {
			out.Prods = append(out.Prods, p)
		}
	}
	prod := func(n int) int {
		return slices.IndexFunc(out.Prods, func(p api.Prod) bool { return p.From == g.Prods[n].From })
	}
	for _, f := range g.Forbid {
		if prod(f.Parent) >= 0 && prod(f.Child) >= 0 {
			out.Forbid = append(out.Forbid, api.Forbid{Parent: prod(f.Parent), At: f.At, Child: prod(f.Child)})
		}
	}
	for _, f := range g.Follow {
		if place(f.Sort) >= 0 {
			out.Follow = append(out.Follow, api.Follow{Sort: place(f.Sort), Not: f.Not})
		}
	}
	return out
}

// CheckTree takes just the trees that there are; Yield tells their bytes.
func TestCheckTreeAsModel(t *testing.T) {
	die := rand.New(rand.NewSource(62))
	const deep = 4
	good, bad := 0, 0
	for range 4_000 {
		g := randomGrammar(die)
		bySort, few := treesOf(g, deep)
		trees := slices.Concat(bySort...)
		if !few || len(trees) == 0 {
			continue
		}
		are := map[string]bool{}
		for _, tree := range trees {
			are[fmt.Sprint(tree)] = true
			checkTree(t, g, tree, api.OK)
			_, text := keyOf(g, tree)
			checkYield(t, tree, text, api.OK)
		}
		for range 20 {
			tree := pick(die, trees...)
			bent := bentTree(die, tree) // no deeper, so that it is told above if it is one
			want := api.ErrTree
			if good++; are[fmt.Sprint(bent)] {
				want = api.OK
			} else {
				bad++
			}
			checkTree(t, g, bent, want)
		}
		if t.Failed() {
			return
		}
	}
	if bad < 3000 || good-bad < 300 {
		t.Errorf("only %d that are trees, %d that are none", good-bad, bad)
	}
}

// bentTree tells a tree that is another one somewhere.
func bentTree(die *rand.Rand, t api.Tree) api.Tree {
	t.Kids = slices.Clone(t.Kids)
	if n := len(t.Kids); n > 0 && die.Intn(3) > 0 {
		k := die.Intn(n)
		t.Kids[k] = bentTree(die, t.Kids[k])
		return t
	}
	switch n := len(t.Kids); die.Intn(4) {
	case 0:
		t.Prod = pick(die, t.Prod+1, t.Prod-1, die.Intn(9), -1, -2, math.MaxInt, math.MinInt)
	case 1:
		t.Byte = pick[byte](die, 'a', 'b', 0, 'c')
	case 2:
		if n > 0 {
			t.Kids = append(t.Kids, t.Kids[die.Intn(n)])
		}
	case 3:
		if n > 0 {
			t.Kids = t.Kids[:n-1]
		}
	}
	return t
}

// All small shapes of trees, good and bad ones, held against the trees that there are.
func TestCheckTreeAllSmall(t *testing.T) {
	g := read("S A", "S = [a]", "S = A S", "A =", "A = [ab] : reject", "A = S", "S =")
	bySort, _ := treesOf(g, 3)
	are, left := map[string]bool{}, map[string]bool{}
	for _, tree := range slices.Concat(bySort...) {
		are[fmt.Sprint(tree)], left[fmt.Sprint(tree)] = true, true
	}
	check := func(tree api.Tree) {
		want, key := api.ErrTree, fmt.Sprint(tree)
		if are[key] {
			want = api.OK
			delete(left, key)
		}
		checkTree(t, g, tree, want)
	}
	over := func(kids [][]api.Tree) []api.Tree {
		var out []api.Tree
		for prod := -2; prod <= 6; prod++ {
			for _, b := range []byte{0, 'a'} {
				for _, l := range kids {
					out = append(out, api.Tree{Prod: prod, Byte: b, Kids: l})
				}
			}
		}
		return out
	}
	flat := over([][]api.Tree{nil})
	lists := [][]api.Tree{nil}
	for _, x := range flat {
		lists = append(lists, []api.Tree{x})
		for _, y := range flat {
			lists = append(lists, []api.Tree{x, y})
		}
	}
	for _, tree := range over(lists) {
		check(tree)
		check(node(4, tree))
		for _, first := range []api.Tree{node(2), node(4, node(5))} {
			check(node(1, first, tree))
		}
		for _, last := range []api.Tree{node(5), node(0, byteTree('a'))} {
			check(node(1, tree, last))
		}
	}
	if len(left) > 0 {
		t.Errorf("not gone over: %v", left)
	}
}
