package value

import "crucible/api"

// pair of a map: a key, and the value that stands behind it.
type pair struct{ key, behind api.Value }

func (p pair) compare(q pair) int { return Compare(p.key, q.key) }

// entry is a pair with its number, which sorting would lose.
type entry struct {
	pair
	number int
}

func byKey(a, b entry) int { return a.compare(b.pair) }

// pairs takes keys and values in turn, even in number.
func pairs(kids []api.Value) []pair {
	out := make([]pair, 0, len(kids)/2)
	for i := 0; i < len(kids); i += 2 {
		out = append(out, pair{kids[i], kids[i+1]})
	}
	return out
}

func entries(kids []api.Value) []entry {
	out := make([]entry, 0, len(kids)/2)
	for i, p := range pairs(kids) {
		out = append(out, entry{p, i})
	}
	return out
}

// repeated is the least number of an entry whose key an earlier one has, -1 where there is none.
// Those with one key stand side by side, in the order of their numbers.
func repeated(sorted []entry) int {
	least := -1
	for i := 1; i < len(sorted); i++ {
		later := sorted[i]
		if byKey(sorted[i-1], later) == 0 && (least < 0 || later.number < least) {
			least = later.number
		}
	}
	return least
}

func mapOf(sorted []entry) api.Value {
	kids := make([]api.Value, 0, 2*len(sorted))
	for _, e := range sorted {
		kids = append(kids, Copy(e.key), Copy(e.behind))
	}
	return api.Value{Kind: api.VMap, Kids: kids}
}
