// Package nat is layer 1: natural numbers of any size, as lists of limbs of 32 bits, the lowest first. See doc/01-nat.md.
package nat

import (
	"cmp"
	"math/bits"

	"crucible/api"
)

const limbBits = 32

// shortFactor is the length up to which limb by limb is the quickest way to a product, by measurement.
const shortFactor = 100

// Norm: the number without noughts at its end. (P1.1)
func Norm(a api.Nat) api.Nat {
	a = trim(a)
	out := make(api.Nat, len(a))
	copy(out, a)
	return trim(out)
}

// From: the list of x. (P1.1)
func From(x uint64) api.Nat {
	return trim(api.Nat{uint32(x), uint32(x >> limbBits)})
}

// Uint: the number, if it is below 2 to the 64. (P1.1)
func Uint(a api.Nat) (uint64, bool) {
	a = trim(a)
	if len(a) > 2 {
		return 0, false
	}
	return uint64(limb(a, 1))<<limbBits | uint64(limb(a, 0)), true
}

// Len: how many binary digits it has. (P1.2)
func Len(a api.Nat) int {
	a = trim(a)
	if len(a) == 0 {
		return 0
	}
	last := len(a) - 1
	return last*limbBits + bits.Len32(a[last])
}

// Cmp: -1, 0 or 1. (P1.2)
func Cmp(a, b api.Nat) int {
	a, b = trim(a), trim(b)
	if len(a) != len(b) {
		return cmp.Compare(len(a), len(b))
	}
	for i := range len(a) {
		at := len(a) - 1 - i
		if a[at] != b[at] {
			return cmp.Compare(a[at], b[at])
		}
	}
	return 0
}

// Add: the sum. (P1.3)
func Add(a, b api.Nat) api.Nat {
	a, b = trim(a), trim(b)
	size := max(len(a), len(b))
	out := make(api.Nat, size+1)
	var carry uint32
	for i := range size {
		out[i], carry = bits.Add32(limb(a, i), limb(b, i), carry)
	}
	out[size] = carry
	return trim(out)
}

// Sub: the difference; false: there is none. (P1.3)
func Sub(a, b api.Nat) (api.Nat, bool) {
	a, b = trim(a), trim(b)
	if Cmp(a, b) < 0 {
		return nil, false
	}
	out := make(api.Nat, len(a))
	var borrow uint32
	for i := range len(a) {
		out[i], borrow = bits.Sub32(a[i], limb(b, i), borrow)
	}
	return trim(out), true
}

// Mul: the product. (P1.3)
func Mul(a, b api.Nat) api.Nat {
	a, b = trim(a), trim(b)
	if len(a) > len(b) {
		a, b = b, a
	}
	out := make(api.Nat, len(a)+len(b))
	if len(a) <= shortFactor {
		for i := range len(a) {
			out[i+len(b)] = addTimes(out[i:i+len(b)], b, a[i])
		}
		return trim(out)
	}
	for at := 0; at < len(b); at += len(a) {
		addInto(out[at:], byHalves(a, b[at:min(at+len(a), len(b))]))
	}
	return trim(out)
}

// Shl: times 2 to the power of n; false: n is below 0, or the product has too many limbs. (P1.4)
func Shl(a api.Nat, n int) (api.Nat, bool) {
	a = trim(a)
	if n < 0 {
		return nil, false
	}
	if len(a) == 0 {
		return nil, true
	}
	// Taken from the limit, not added to the length: a sum with any n could wrap round.
	if n > api.MaxLimbs*limbBits-Len(a) {
		return nil, false
	}
	whole := n / limbBits
	out := make(api.Nat, whole+len(a)+1)
	copy(out[whole:], a)
	raise(out[whole:], uint(n%limbBits))
	return trim(out), true
}

// Shr: divided by 2 to the power of n, and is something left over? false: n is below 0. (P1.4)
func Shr(a api.Nat, n int) (q api.Nat, more, ok bool) {
	a = trim(a)
	if n < 0 {
		return nil, false, false
	}
	whole := n / limbBits
	if whole >= len(a) {
		return nil, len(a) > 0, true
	}
	out := make(api.Nat, len(a)-whole)
	copy(out, a[whole:])
	lost := lower(out, uint(n%limbBits))
	return trim(out), lost != 0 || len(trim(a[:whole])) > 0, true
}

// Small: divided by a small number, and what is left; false: it is 0. (P1.5)
func Small(a api.Nat, d uint32) (q api.Nat, r uint32, ok bool) {
	if d == 0 {
		return nil, 0, false
	}
	a = trim(a)
	out := make(api.Nat, len(a))
	for i := range len(a) {
		at := len(a) - 1 - i
		out[at], r = bits.Div32(r, a[at], d)
	}
	return trim(out), r, true
}

// trim cuts off the noughts at the end, and the room behind them, so that appending to an answer never writes into what lies there.
// It shares the list's memory: what is handed out must have been made anew.
func trim(a api.Nat) api.Nat {
	size := len(a)
	for size > 0 && a[size-1] == 0 {
		size--
	}
	return a[:size:size]
}

// limb reads a list as one that goes on in noughts, so that lists of two lengths can be gone through side by side.
func limb(a api.Nat, i int) uint32 {
	if i < len(a) {
		return a[i]
	}
	return 0
}

// addTimes adds b times x to the limbs of row, which has as many as b, and answers what goes on into the limb behind them.
// The greatest step, (2^32-1)^2 + 2(2^32-1), is 2^64-1: it just fits.
func addTimes(row, b api.Nat, x uint32) uint32 {
	var carry uint64
	for i := range len(b) {
		step := uint64(b[i])*uint64(x) + uint64(row[i]) + carry
		row[i] = uint32(step)
		carry = step >> limbBits
	}
	return uint32(carry)
}

// byHalves is the product of a and of b, which is no longer than a, from three products of half the length instead of four:
// at api.MaxLimbs limbs, limb by limb would take the better part of a minute.
func byHalves(a, b api.Nat) api.Nat {
	half := len(a) / 2
	cut := min(half, len(b))
	low := Mul(a[:half], b[:cut])
	high := Mul(a[half:], b[cut:])
	mid := Mul(Add(a[:half], a[half:]), Add(b[:cut], b[cut:]))
	mid, _ = Sub(mid, Add(low, high))
	out := make(api.Nat, len(a)+len(b))
	copy(out, low)
	copy(out[2*half:], high)
	addInto(out[half:], mid)
	return out
}

// addInto adds b to the limbs of a, where the sum has room.
func addInto(a, b api.Nat) {
	b = trim(b)
	var carry uint32
	for i := range len(b) {
		a[i], carry = bits.Add32(a[i], b[i], carry)
	}
	for i := len(b); carry != 0; i++ {
		a[i], carry = bits.Add32(a[i], 0, carry)
	}
}

// raise shifts the limbs of a up by n, below 32; the highest of them must have room for it.
// At n = 0 the language shifts by 32 to nought, so nothing is carried.
func raise(a api.Nat, n uint) {
	var carry uint32
	for i := range len(a) {
		x := a[i]
		a[i] = x<<n | carry
		carry = x >> (limbBits - n)
	}
}

// lower shifts the limbs of a down by n, below 32, and answers the bits that fall out at the low end.
func lower(a api.Nat, n uint) uint32 {
	var carry uint32
	for i := range len(a) {
		at := len(a) - 1 - i
		x := a[at]
		a[at] = x>>n | carry
		carry = x << (limbBits - n)
	}
	return carry
}
