package decimal

import (
	"strings"

	"crucible/api"
	"crucible/ieee"
	"crucible/nat"
	"crucible/quot"
)

const (
	// Numbers whose first digit stands below the lowest place are nearest to 0, in every width, and those above the highest one to the infinite one.
	lowest, highest = -330, 310
	// No number halfway between two patterns has so many digits: what stands behind them tells only that a number is above what they say.
	enough = 800
	// So many binary digits are more than ieee.Round needs to be told that there is more.
	precision = 64
)

// nearest is the pattern that is nearest to a number.
func nearest[T ieee.Bits](n number) T {
	// How far below the lowest place it is makes no difference, and the least int has nothing below it.
	place := max(n.point, lowest-1) - n.ahead
	switch {
	case n.digits == "" || place < lowest:
		return ieee.Round[T](n.neg, nil, 0, false)
	case place > highest:
		return infinite[T](n.neg)
	}
	m, places := leading(n.digits)
	return scaled[T](n.neg, m, place-places)
}

// infinite rounds a number that is above all finite ones of each width.
func infinite[T ieee.Bits](neg bool) T {
	return ieee.Round[T](neg, nat.From(1), 4*highest, false)
}

// leading are so many of the digits as count, and how many those are.
func leading(digits string) (api.Nat, int) {
	if len(digits) > enough {
		// The last one is not 0, so there is more behind those that count.
		digits = digits[:enough] + "1"
	}
	m, _ := quot.Read(digits)
	return m, len(digits)
}

// scaled is the pattern that is nearest to m times 10 to the power of e. (m is not 0; the power of 2 in that of 10 is left to the exponent.)
func scaled[T ieee.Bits](neg bool, m api.Nat, e int) T {
	if e >= 0 {
		five, _ := quot.Pow(5, e)
		return ieee.Round[T](neg, nat.Mul(m, five), e, false)
	}
	five, _ := quot.Pow(5, -e)
	up := max(0, nat.Len(five)+precision-nat.Len(m))
	high, _ := nat.Shl(m, up)
	q, r, _ := quot.Div(high, five)
	return ieee.Round[T](neg, q, e-up, len(r) > 0)
}

// inDecimal tells m times 2 to the power of e, m not being 0: its digits without noughts behind, and their point.
func inDecimal(m uint64, e int) (string, int) {
	if e >= 0 {
		whole, _ := nat.Shl(nat.From(m), e)
		text := quot.Digits(whole)
		return strings.TrimRight(text, "0"), len(text)
	}
	// m over 2 to the power of n is m times 5 to the power of n, n places down; as m is odd, that does not end with 0.
	five, _ := quot.Pow(5, -e)
	text := quot.Digits(nat.Mul(nat.From(m), five))
	return text, len(text) + e
}
