package cborread

import (
	"slices"

	"crucible/api"
	"crucible/value"
)

// pairs are those of a map that have been met.
type pairs struct {
	// kids are key, value, key, value .., as they came.
	kids []api.Value
	// rising are the places of the keys in kids, in the order of the keys: they are small, and so quickly moved to make room.
	rising []int32
}

// addKey takes a key; false: it is one that has been met.
func (p *pairs) addKey(key api.Value) bool {
	at, met := slices.BinarySearchFunc(p.rising, key, func(n int32, key api.Value) int {
		return value.Compare(p.kids[n], key)
	})
	if met {
		return false
	}
	p.rising = append(p.rising, 0)
	copy(p.rising[at+1:], p.rising[at:])
	p.rising[at] = int32(len(p.kids))
	p.kids = append(p.kids, key)
	return true
}

// addValue takes the value that stands behind the last key.
func (p *pairs) addValue(v api.Value) { p.kids = append(p.kids, v) }

// inOrder is the map of all pairs.
func (p *pairs) inOrder() api.Value {
	kids := make([]api.Value, 0, len(p.kids))
	for _, n := range p.rising {
		kids = append(kids, p.kids[n:n+2]...)
	}
	return api.Value{Kind: api.VMap, Kids: kids}
}
