package shortest

import (
	"crucible/api"
	"crucible/ieee"
	"crucible/nat"
	"crucible/quot"
)

// reach is a number above 0, and how far below and above it those go that are read as its pattern. All are told in small parts, one of which is so many that they make up 1.
type reach struct {
	number, below, above, one api.Nat
	// ends says that the ends are read as it too: of two patterns that are as close the even one is the nearest.
	ends bool
}

// reachOf is the reach of a finite pattern above 0: it goes halfway to each neighbour, and of the greatest one as far as if there were one above it.
func reachOf[T ieee.Bits](x T) reach {
	_, m, e, _ := ieee.Parts(x)
	// The last digit of an odd fraction is worth just a step.
	_, _, stepAbove, _ := ieee.Parts(x | 1)
	_, _, stepBelow, _ := ieee.Parts((x - 1) | 1)
	// The parts are halves of the step below, as this is never the greater one.
	r := reach{
		number: nat.From(2 * m << (e - stepBelow)),
		below:  nat.From(1),
		above:  nat.From(1 << (stepAbove - stepBelow)),
		one:    nat.From(1),
		ends:   x%2 == 0,
	}
	part := stepBelow - 1
	if part < 0 {
		r.one, _ = nat.Shl(r.one, -part)
	} else {
		r.number, _ = nat.Shl(r.number, part)
		r.below, _ = nat.Shl(r.below, part)
		r.above, _ = nat.Shl(r.above, part)
	}
	return r
}

// scale divides all by that power of 10 which brings the number below 1, but not below a tenth, and answers which it is.
func (r *reach) scale() int {
	// The common logarithm of 2 is about 0.30103. One is taken off, so that the guess is never too great.
	point := (nat.Len(r.number)-nat.Len(r.one)-1)*30103/100000 - 1
	if point < 0 {
		power, _ := quot.Pow(10, -point)
		r.times(power)
	} else {
		power, _ := quot.Pow(10, point)
		r.one = nat.Mul(r.one, power)
	}
	for nat.Cmp(r.number, r.one) >= 0 {
		r.one = nat.Mul(r.one, nat.From(10))
		point++
	}
	return point
}

func (r *reach) times(n api.Nat) {
	r.number, r.below, r.above = nat.Mul(r.number, n), nat.Mul(r.below, n), nat.Mul(r.above, n)
}
