package number_test

import (
	"math"
	"math/big"
	"slices"
	"testing"

	"crucible/api"
	"crucible/ieee"
	"crucible/number"
)

func ofIs[T ieee.Bits](t *testing.T, x T, want api.Value) {
	t.Helper()
	if got := number.Of(x); !same(got, want) {
		t.Errorf("Of(%#x) = %s, want %s", x, show(got), show(want))
	}
}

// P15.1: the chapter's examples, and others whose numbers are known.
func TestOfKnown(t *testing.T) {
	ofIs(t, uint16(0x3c00), num("1"))
	ofIs(t, uint16(0x8000), num("0"))
	ofIs(t, uint32(0x3fc00000), float(half3))
	ofIs(t, uint16(0x7c00), float(plus))
	ofIs(t, uint32(0xffc00001), float(noNum))
	ofIs(t, uint16(0x0001), float(0x3e70000000000000))
	ofIs(t, uint64(0x4340000000000001), num("9007199254740994"))
	ofIs(t, uint64(0xc1e0000000000000), num("-2147483648"))
	ofIs(t, own16(0xc200), num("-3"))
	ofIs(t, own32(0xcf800000), num("-4294967296"))
	ofIs(t, own64(0x3fb999999999999a), float(0x3fb999999999999a))
	ofIs(t, uint64(greatest), ofBig(new(big.Int).Sub(power(1024, 0), power(971, 0))))
}

// P15.1: in each width both noughts, the ends of the subnormal and of the normal patterns, what is infinite and what is no number.
func TestOfEdges(t *testing.T) {
	for _, sign := range []uint64{0, 1} {
		ofIs(t, uint16(sign<<15), limbs(false))
		ofIs(t, uint32(sign<<31), limbs(false))
		ofIs(t, sign<<63, limbs(false))
		ofIs(t, uint16(sign<<15|0x0001), float(sign<<63|0x3e70000000000000))
		ofIs(t, uint16(sign<<15|0x03ff), float(sign<<63|0x3f0ff80000000000))
		ofIs(t, uint16(sign<<15|0x0400), float(sign<<63|0x3f10000000000000))
		ofIs(t, uint16(sign<<15|0x7bff), limbs(sign == 1, 65504))
		ofIs(t, uint32(sign<<31|0x00000001), float(sign<<63|0x36a0000000000000))
		ofIs(t, uint32(sign<<31|0x007fffff), float(sign<<63|0x380fffffc0000000))
		ofIs(t, uint32(sign<<31|0x00800000), float(sign<<63|0x3810000000000000))
		ofIs(t, uint32(sign<<31|0x7f7fffff), limbs(sign == 1, 0, 0, 0, 0xffffff00))
		for _, x := range []uint64{1, 1<<52 - 1, 1 << 52, 0x3fefffffffffffff, 0x3ff0000000000001, 0x432fffffffffffff} {
			ofIs(t, sign<<63|x, float(sign<<63|x))
		}
		ofIs(t, sign<<63|0x432ffffffffffffe, limbs(sign == 1, 0xffffffff, 1<<20-1))
		ofIs(t, sign<<63|0x4330000000000001, limbs(sign == 1, 1, 1<<20))
		ofIs(t, uint16(sign<<15|0x7c00), float(sign<<63|plus))
		ofIs(t, uint32(sign<<31|0x7f800000), float(sign<<63|plus))
		ofIs(t, sign<<63|plus, float(sign<<63|plus))
		for _, x := range []uint16{0x7c01, 0x7dff, 0x7e00, 0x7e01, 0x7fff} {
			ofIs(t, uint16(sign<<15)|x, float(noNum))
		}
		for _, x := range []uint32{0x7f800001, 0x7fbfffff, 0x7fc00000, 0x7fc00001, 0x7fffffff} {
			ofIs(t, uint32(sign<<31)|x, float(noNum))
		}
		for _, x := range []uint64{plus + 1, noNum - 1, noNum, noNum + 1, math.MaxInt64} {
			ofIs(t, sign<<63|x, float(noNum))
		}
	}
}

func ofAll[T ieee.Bits](t *testing.T) {
	k := kindOf[T]()
	seen := map[api.Kind]int{}
	for _, x := range slices.Concat(few[T](), many[T]()) {
		want := valueOf(k.number(uint64(x)))
		seen[want.Kind]++
		ofIs(t, x, want)
		if t.Failed() {
			break
		}
	}
	if seen[api.VInt] < 500 || seen[api.VFloat] < 500 {
		t.Errorf("looked at %v", seen)
	}
}

// P15.1: all patterns of 16 bits, and of the others some with every exponent.
func TestOf(t *testing.T) {
	widths(t, ofAll[uint16], ofAll[uint32], ofAll[uint64], ofAll[own16], ofAll[own32], ofAll[own64])
}

func ofInt(t *testing.T, x api.Int, want api.Value) {
	t.Helper()
	if got := number.OfInt(x); !same(got, want) {
		t.Errorf("OfInt(%v) = %s, want %s", x, show(got), show(want))
	}
}

// P15.1: whole numbers, in normal form and not.
func TestOfInt(t *testing.T) {
	ofInt(t, api.Int{Neg: true}, limbs(false))
	ofInt(t, api.Int{Mag: api.Nat{5, 0}}, num("5"))
	for _, neg := range []bool{false, true} {
		for noughts := range 4 {
			tail := make(api.Nat, noughts)
			ofInt(t, api.Int{Neg: neg, Mag: tail}, limbs(false))
			for _, m := range []api.Nat{{1}, {0, 1}, {math.MaxUint32}, {0, 0, 0, 1 << 31}, {1, 2, 3, 4, 5}} {
				ofInt(t, api.Int{Neg: neg, Mag: append(slices.Clone(m), tail...)}, limbs(neg, m...))
			}
		}
	}
	long := make(api.Nat, api.MaxLimbs+9)
	ofInt(t, api.Int{Neg: true, Mag: long}, limbs(false))
	long[api.MaxLimbs+2] = 7
	ofInt(t, api.Int{Neg: true, Mag: long}, limbs(true, long[:api.MaxLimbs+3]...))
}
