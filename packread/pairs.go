package packread

import (
	"cmp"
	"slices"

	"crucible/api"
	"crucible/value"
)

// pairs are those of a map that have been read, as they came.
type pairs struct {
	// kids are key, value, key, value ..; behind an error the last value is not there.
	kids []api.Value
	// from are the places of the keys.
	from []int
}

// dictionary reads a map.
func (r *reader) dictionary(h head) (api.Value, error) {
	if err := r.enter(h); err != nil {
		return api.Value{}, err
	}
	defer r.leave()
	met, err := r.pairs(h.n)
	rising := met.rising()
	// A key that stands twice had been read whole when err was found, and so comes ahead of it.
	if from, ok := met.twice(rising); ok {
		return api.Value{}, wrongAt(from)
	}
	if err != nil {
		return api.Value{}, err
	}
	return met.inOrder(rising), nil
}

// pairs reads so many, or up to an error.
func (r *reader) pairs(n uint64) (pairs, error) {
	var met pairs
	for range n {
		from := r.at
		key, err := r.item()
		if err != nil {
			return met, err
		}
		met.from = append(met.from, from)
		met.kids = append(met.kids, key)
		behind, err := r.item()
		if err != nil {
			return met, err
		}
		met.kids = append(met.kids, behind)
	}
	return met, nil
}

func (p *pairs) key(i int) api.Value { return p.kids[2*i] }

// rising are the numbers of the pairs, by the order of their keys; where these are the same, as they came.
func (p *pairs) rising() []int {
	out := make([]int, len(p.from))
	for i := range out {
		out[i] = i
	}
	slices.SortFunc(out, func(i, j int) int {
		return cmp.Or(value.Compare(p.key(i), p.key(j)), cmp.Compare(i, j))
	})
	return out
}

// twice is the place of the first key that is the same value as an earlier one; false: there is none.
func (p *pairs) twice(rising []int) (from int, ok bool) {
	first := len(p.from)
	for n := 1; n < len(rising); n++ {
		// Keys that are the same lie side by side.
		if i := rising[n]; i < first && value.Compare(p.key(rising[n-1]), p.key(i)) == 0 {
			first = i
		}
	}
	if first == len(p.from) {
		return 0, false
	}
	return p.from[first], true
}

// inOrder is the map of all pairs.
func (p *pairs) inOrder(rising []int) api.Value {
	kids := make([]api.Value, 0, len(p.kids))
	for _, i := range rising {
		kids = append(kids, p.kids[2*i:2*i+2]...)
	}
	return api.Value{Kind: api.VMap, Kids: kids}
}
