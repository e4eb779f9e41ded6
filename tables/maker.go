package tables

import (
	"iter"
	"slices"

	"rosetta/api"
	"rosetta/sets"
)

// maker makes a grammar's states, one behind the other.
type maker struct {
	*plan
	met     map[string]int     // states' numbers, by the items that are read on the way to them: what else belongs to a state follows from these
	read    []string           // these items, by states' numbers
	classes numbering          // of all states
	splits  map[string]classes // states' classes, by their sets: many states have the same ones
	bySort  [][]byte           // of the state that is gone through, the items that are read behind each sort
	byByte  [256][]byte        // and those that are read behind each class, by its least byte
}

// classes are those of a state: their least bytes; and by these, rising, their numbers.
type classes struct {
	leasts  api.Set
	numbers []int
}

// makerOf tells a maker that has made no state yet.
func makerOf(g api.Grammar) *maker {
	return &maker{
		plan:    planOf(g),
		met:     map[string]int{},
		classes: numbering{of: map[api.Set]int{}},
		splits:  map[string]classes{},
		bySort:  make([][]byte, len(g.Sorts)),
	}
}

// tables makes all states.
func (m *maker) tables() *Tables {
	var first []byte
	for _, prod := range m.prods[m.start] {
		first = withItem(first, api.Item{Prod: prod})
	}
	m.number(first)
	var states []state
	for n := 0; n < len(m.read); n++ { // each state may lead to new ones
		states = append(states, m.state(m.whole(itemsOf(m.read[n]))))
	}
	return &Tables{sorts: m.sorts, classes: m.classes.all, states: states}
}

// number tells the number of the state on the way to which some items are read: a new one, if it was not met.
func (m *maker) number(read []byte) int {
	if n, met := m.met[string(read)]; met {
		return n
	}
	n, items := len(m.read), string(read)
	if n == api.MaxStates {
		panic(tooMany{})
	}
	m.met[items] = n
	m.read = append(m.read, items)
	return n
}

// state tells the state that has these items.
func (m *maker) state(items []api.Item) state {
	s := state{items: textOf(items)}
	for _, it := range items {
		if m.ahead(it) == end {
			s.complete = append(s.complete, it.Prod)
		}
	}
	for by, read := range m.leads(items) {
		s.edges = append(s.edges, edge{int32(by), int32(m.number(read))})
	}
	return s
}

// whole tells a state's items, rising, by those that are read on the way to it: these, and all that belongs to them.
func (m *maker) whole(read []api.Item) []api.Item {
	items := make([]api.Item, 0, len(read)+len(m.rights))
	for prod, begins := range m.begun(read) {
		if begins {
			items = append(items, api.Item{Prod: prod})
		}
		for len(read) > 0 && read[0].Prod == prod {
			items, read = append(items, read[0]), read[1:]
		}
	}
	return slices.Compact(items) // what the first state is made of may belong to it as well
}

// begun tells of each production whether it belongs to some items, with the Dot 0.
func (m *maker) begun(items []api.Item) []bool {
	begun, met := make([]bool, len(m.rights)), make([]bool, m.sorts)
	var sorts []int // those ahead of which a Dot stands
	meet := func(it api.Item) {
		if by := m.ahead(it); m.isSort(by) && !met[by] {
			met[by] = true
			sorts = append(sorts, by)
		}
	}
	for _, it := range items {
		meet(it)
	}
growing:
	for at := 0; ; at++ {
		if at == len(sorts) {
			break growing
		}
		for _, prod := range m.prods[sorts[at]] {
			begun[prod] = true
			meet(api.Item{Prod: prod})
		}
	}
	return begun
}

// leads goes over what a state leads on by, numbered as edges are, each with the items that are read then: sorts, rising, then classes, by rising least bytes.
func (m *maker) leads(items []api.Item) iter.Seq2[int, []byte] {
	return func(yield func(int, []byte) bool) {
		c := m.classesOf(items)
		m.gather(items, c.leasts)
		for sort := range m.bySort {
			if read := taken(&m.bySort[sort]); len(read) > 0 && !yield(sort, read) {
				return
			}
		}
		at := 0
		for b := range sets.Bytes(c.leasts) {
			if !yield(m.sorts+c.numbers[at], taken(&m.byByte[b])) {
				return
			}
			at++
		}
	}
}

// gather puts a state's items, with the Dot one further, where they are read: behind a sort; or behind each class that is within a set: each one whose least byte the set has.
func (m *maker) gather(items []api.Item, leasts api.Set) {
	for _, it := range items {
		next := api.Item{Prod: it.Prod, Dot: it.Dot + 1}
		switch by := m.ahead(it); {
		case m.isSort(by):
			m.bySort[by] = withItem(m.bySort[by], next)
		case m.isSet(by):
			for b := range sets.Bytes(sets.Meet(m.set(by), leasts)) {
				m.byByte[b] = withItem(m.byByte[b], next)
			}
		}
	}
}

// taken tells what was gathered at a place, and leaves the place empty. What is told holds till more is gathered there.
func taken(place *[]byte) []byte {
	read := *place
	*place = read[:0]
	return read
}

// classesOf tells the classes of the state that has these items.
func (m *maker) classesOf(items []api.Item) classes {
	var asked []int // the state's sets
	for _, it := range items {
		if by := m.ahead(it); m.isSet(by) {
			asked = append(asked, by)
		}
	}
	slices.Sort(asked)
	asked = slices.Compact(asked)
	key := textOfNumbers(asked)
	c, met := m.splits[key]
	if !met {
		c = m.split(asked)
		m.splits[key] = c
	}
	return c
}

// split tells the parts of some sets that lie within one of them.
func (m *maker) split(asked []int) classes {
	var l []api.Set
	for _, by := range asked {
		l = append(l, m.set(by))
	}
	all := sets.Union(l...)
	var c classes
	for _, part := range sets.Split(l...) {
		if sets.Within(part, all) {
			least, _ := sets.Least(part)
			c.leasts = sets.Union(c.leasts, sets.Of(least))
			c.numbers = append(c.numbers, m.classes.number(part))
		}
	}
	return c
}
