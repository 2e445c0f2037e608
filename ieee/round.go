package ieee

import (
	"math/bits"

	"crucible/api"
	"crucible/nat"
	"crucible/whole"
)

// cutDigits are the binary digits of a long number that are kept: more than any width can tell apart, and few enough that one more, for all that is left out, fits into 64 bits.
const cutDigits = 62

// Round: the nearest pattern to m (and something more) times 2 to the power of e. (P4.4)
func Round[T Bits](neg bool, m api.Nat, e int, more bool) T {
	l := layoutOf[T]()
	size := l.nearest(m, e, more)
	if neg {
		size |= l.sign()
	}
	return T(size)
}

// To: the nearest pattern of another width; is it the same value? (P4.5)
func To[B, A Bits](x A) (B, bool) {
	l := layoutOf[B]()
	neg, m, e, ok := Parts(x)
	switch {
	case ok:
		y := Round[B](neg, nat.From(m), e, false)
		_, n, f, ok := Parts(y)
		return y, ok && n == m && f == e
	case Class(x) == api.ClassNaN:
		return B(l.noNumber()), true
	case uint64(x) == layoutOf[A]().infinite():
		return B(l.infinite()), true
	}
	return B(l.infinite() | l.sign()), true
}

// Int: the whole number that a pattern is. (P4.8)
func Int[T Bits](x T) (api.Int, bool) {
	neg, m, e, ok := Parts(x)
	if !ok || e < 0 {
		return api.Int{}, false
	}
	size, ok := nat.Shl(nat.From(m), e)
	return whole.Norm(api.Int{Neg: neg, Mag: size}), ok
}

// From: the nearest pattern to a whole number; is it that number? (P4.8)
func From[T Bits](x api.Int) (T, bool) {
	x = whole.Norm(x)
	y := Round[T](x.Neg, x.Mag, 0, false)
	back, ok := Int(y)
	return y, ok && whole.Cmp(back, x) == 0
}

// nearest is the nearest pattern without a sign.
func (l layout) nearest(m api.Nat, e int, more bool) uint64 {
	size := nat.Len(m)
	// The number is below 2 to the power of e + size. What is surely 0 or infinite goes first, and e is held against a difference: a sum with any e could wrap round.
	if size == 0 && !more || e < l.least-size {
		return 0
	}
	if e > l.limit()-size {
		return l.infinite()
	}
	short, e := cut(m, e, more)
	step := max(e+bits.Len64(short)-1-l.fraction, l.least)
	return l.pattern(halfEven(short, e-step), step)
}

// cut makes a number of at most 63 binary digits of (m and something more) times 2 to the power of e: its last digit says that there is more, where digits are left out.
func cut(m api.Nat, e int, more bool) (uint64, int) {
	drop := max(nat.Len(m)-cutDigits, 0)
	top, left, _ := nat.Shr(m, drop)
	short, _ := nat.Uint(top)
	short <<= 1
	if left || more {
		short |= 1
	}
	return short, e + drop - 1
}

// halfEven is the whole number next to m times 2 to the power of e; of two that are as close the even one.
func halfEven(m uint64, e int) uint64 {
	if e >= 0 {
		return m << e
	}
	q := m >> -e
	rest, tie := m-q<<-e, uint64(1)<<(-e-1)
	if rest > tie || rest == tie && q%2 == 1 {
		q++
	}
	return q
}
