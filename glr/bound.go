package glr

import (
	"math/bits"

	"rosetta/api"
	"rosetta/tables"
)

// most is what no bound is above.
const most = 1 << 62

// Bound tells how many steps there can be for a text of n bytes.
func Bound(g api.Grammar, n int) (int, api.Errno) {
	t, e := tables.Make(g)
	if e != api.OK {
		return 0, e
	}
	if n < 0 || n > api.MaxParse {
		return 0, api.ErrArg
	}
	leads := 0
	for state := range t.States() {
		leads += t.Leads(state)
	}
	bound := uint64(leads * (n + 1) * (n + 2) / 2) // far below most
	for _, p := range g.Prods {
		if p.Role != api.RoleReject {
			bound = min(bound+choices(n, len(p.Right)+1), most)
		}
	}
	return int(bound), api.OK
}

// choices tells how many ways there are to choose some places, of so many and n more; most, if there are more.
func choices(n, some int) uint64 {
	ways := uint64(1) // to choose i of n + i
	for i := 1; i <= some; i++ {
		high, low := bits.Mul64(ways, uint64(n+i))
		if high >= uint64(i) {
			return most
		}
		ways, _ = bits.Div64(high, low, uint64(i))
	}
	return min(ways, most)
}
