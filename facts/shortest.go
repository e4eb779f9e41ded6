package facts

import "rosetta/api"

// lengths are how many bytes the shortest texts of sorts have, by their numbers.
type lengths [api.MaxProds]int

const (
	none    = -1              // of a sort that has no text
	tooLong = api.MaxText + 1 // of one whose texts have all more than MaxText bytes, however many: so no sum goes over
)

// shortest tells how many bytes sorts' shortest texts have.
func shortest(g api.Grammar) *lengths {
	var least lengths
	for sort := range least {
		least[sort] = none
	}
	settle(making(g), func(p api.Prod) bool {
		n := least.of(p)
		if n == none || least[p.Left] != none && least[p.Left] <= n {
			return false
		}
		least[p.Left] = n
		return true
	})
	return &least
}

// of tells how many bytes a production's shortest texts have.
func (l *lengths) of(p api.Prod) int {
	sum := 0
	for _, s := range p.Right {
		n := 1
		if s.Kind == api.SymSort {
			n = l[s.Sort]
		}
		if n == none {
			return none
		}
		sum = min(sum+n, tooLong)
	}
	return sum
}
