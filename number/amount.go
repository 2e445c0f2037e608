package number

import (
	"crucible/api"
	"crucible/ieee"
	"crucible/nat"
	"crucible/value"
	"crucible/whole"
)

// amount is what a value is as a number: an integer, a float or nothing.
type amount interface {
	// pattern is the one of 64 bits that has this number; false where none has.
	pattern() (uint64, bool)
}

type (
	integer api.Int
	// float is what VFloat may have: finite and no whole number, infinite, or the one pattern for no number.
	float uint64
	// nothing is what all other values are, and what may not be.
	nothing struct{}
)

func (x integer) pattern() (uint64, bool) {
	bits, ok := ieee.From[uint64](api.Int(x))
	if !ok {
		return 0, false
	}
	return bits, true
}

func (x float) pattern() (uint64, bool) { return uint64(x), true }

func (nothing) pattern() (uint64, bool) { return 0, false }

func amountOf(v api.Value) amount {
	// The kind is asked first, as Check would go through all nodes of a container for nothing.
	isNumber := (v.Kind == api.VInt || v.Kind == api.VFloat) && value.Check(v) == nil
	switch {
	case !isNumber:
		return nothing{}
	case v.Kind == api.VInt:
		return integer(v.Int)
	}
	return float(v.Bits)
}

// compare tells by the order of numbers, and false where one of the two has no place in it.
func compare(a, b amount) (int, bool) {
	switch x := a.(type) {
	case integer:
		switch y := b.(type) {
		case integer:
			return whole.Cmp(api.Int(x), api.Int(y)), true
		case float:
			return beside(x, y)
		}
	case float:
		switch y := b.(type) {
		case integer:
			c, ok := beside(y, x)
			return -c, ok
		case float:
			return ieee.Cmp(x, y)
		}
	}
	return 0, false
}

// beside holds a whole number against a float, whole numbers alone against each other: neither is rounded, and no number gets longer.
func beside(x integer, y float) (int, bool) {
	neg, m, e, finite := ieee.Parts(y)
	if !finite {
		// It stands to every whole number as it stands to 0.
		return ieee.Cmp(0, y)
	}
	// A finite float is no whole number: e is below 0, and the float lies farther from 0 than what it is cut to, by less than 1.
	size, _, _ := nat.Shr(nat.From(m), -e)
	c := whole.Cmp(api.Int(x), api.Int{Neg: neg, Mag: size})
	switch {
	case c != 0:
		return c, true
	case neg:
		return 1, true
	}
	return -1, true
}
