package diag

import (
	"slices"

	"crucible/api"
	"crucible/value"
)

// pairs are those of a map that have been met.
type pairs struct {
	// kids are key, value, key, value .., as they came.
	kids []api.Value
	// rising are the places of the keys in kids, in the order of the keys: they are small, and so quickly moved to make room.
	rising []int32
}

// addKey takes a key; false: it is one that has been met.
func (p *pairs) addKey(key api.Value) bool {
	at, met := slices.BinarySearchFunc(p.rising, key, func(place int32, key api.Value) int {
		return value.Compare(p.kids[place], key)
	})
	if met {
		return false
	}
	p.rising = slices.Insert(p.rising, at, int32(len(p.kids)))
	p.kids = append(p.kids, key)
	return true
}

// addValue takes the value that stands behind the last key.
func (p *pairs) addValue(v api.Value) { p.kids = append(p.kids, v) }

// inOrder is all pairs, by their keys.
func (p *pairs) inOrder() []api.Value {
	var kids []api.Value
	for _, place := range p.rising {
		kids = append(kids, p.kids[place:place+2]...)
	}
	return kids
}
