package ieee_test

import (
	"math"
	"slices"
	"testing"

	"crucible/api"
	"crucible/ieee"
	"crucible/nat"
)

// wantRound asks with each sign, and with noughts at the end of the list.
func wantRound[T ieee.Bits](t *testing.T, a amount, more bool, want uint64) {
	t.Helper()
	k := kindOf[T]()
	for _, neg := range []bool{false, true} {
		for _, m := range []list{a.m, append(slices.Clone(a.m), 0, 0, 0)} {
			if got := ieee.Round[T](neg, m, a.e, more); uint64(got) != k.signed(neg, want) {
				t.Errorf("Round(%v, %v, %d, %v) = %#x, want %#x", neg, m, a.e, more, got, k.signed(neg, want))
			}
		}
	}
}

// steps goes from a pattern to the one behind it: from 0 to the least, from subnormal to normal and from the greatest to the infinite one too.
func steps[T ieee.Bits](t *testing.T) {
	k := kindOf[T]()
	for _, size := range finite(many[T]()) {
		a, mid, up := k.amountOf(size), k.middle(size), size+1
		wantRound[T](t, a, false, size)
		wantRound[T](t, mid, false, size+size%2)
		wantRound[T](t, mid.finer(3), false, size+size%2)
		wantRound[T](t, mid.finer(3).plus(1), false, up)
		wantRound[T](t, mid.finer(3).less(1), false, size)
		wantRound[T](t, mid.finer(100).plus(1), false, up)
		wantRound[T](t, mid.finer(100).less(1), false, size)
		wantRound[T](t, a.finer(100).plus(1), false, size)
		wantRound[T](t, k.amountOf(up).finer(100).less(1), false, up)
		// With more: a half of the step, of the half, of a hundredth digit behind it.
		wantRound[T](t, a, true, size+size%2)
		wantRound[T](t, mid, true, up)
		wantRound[T](t, a.finer(1), true, size)
		wantRound[T](t, a.finer(70), true, size)
		wantRound[T](t, mid.finer(70), true, up)
		wantRound[T](t, mid.finer(70).less(1), true, size)
		wantRound[T](t, k.amountOf(up).finer(70).less(1), true, up)
	}
}

// P4.1, P4.4.
func TestRoundSteps(t *testing.T) {
	widths(t, steps[uint16], steps[uint32], steps[uint64], steps[own16], steps[own32], steps[own64])
}

// anyNumbers holds numbers of all lengths and sizes against the reference.
func anyNumbers[T ieee.Bits](t *testing.T) {
	k := kindOf[T]()
	r := rule{uint64(k.taken)}
	low, high := -k.taken-3, k.taken-int(k.fraction)+4
	for i := range 30000 {
		digits := r.below(70)
		if i%10 == 0 {
			digits = r.below(400)
		}
		m, more := r.list(digits), r.below(2) == 0
		e := low + r.below(high-low) - digits
		a := amount{m, e}
		wantRound[T](t, a, more, k.nearest(a.andMore(more)))
	}
}

// P4.4.
func TestRoundAny(t *testing.T) {
	widths(t, anyNumbers[uint16], anyNumbers[uint32], anyNumbers[uint64], anyNumbers[own16], anyNumbers[own32], anyNumbers[own64])
}

// fewDigits goes through all small numbers, each power of 2 that makes a difference, with and without more.
func fewDigits[T ieee.Bits](t *testing.T) {
	k := kindOf[T]()
	for m := range uint64(9) {
		for e := -k.taken - 8; e < k.taken+8; e++ {
			for _, more := range []bool{false, true} {
				a := amount{nat.From(m), e}
				wantRound[T](t, a, more, k.nearest(a.andMore(more)))
			}
		}
	}
}

func TestRoundFewDigits(t *testing.T) {
	widths(t, fewDigits[uint16], fewDigits[uint32], fewDigits[uint64], fewDigits[own16], fewDigits[own32], fewDigits[own64])
}

// ends are the powers of 2 at both ends of int, and next to them.
func ends[T ieee.Bits](t *testing.T) {
	k := kindOf[T]()
	r := rule{5}
	for d := range 3000 {
		for _, m := range []list{{1}, {0, 1}, {1<<32 - 1}, {1<<32 - 1, 1<<32 - 1}, {0, 0, 1}, r.list(d + 1)} {
			if d > 70 && len(m) < 3 {
				continue
			}
			for _, more := range []bool{false, true} {
				wantRound[T](t, amount{m, math.MaxInt - d}, more, k.infinite())
				wantRound[T](t, amount{m, math.MinInt + d}, more, 0)
			}
		}
	}
	for _, e := range []int{math.MinInt, math.MinInt + 1, math.MinInt32, -1, 0, 1, math.MaxInt32, math.MaxInt - 1, math.MaxInt} {
		wantRound[T](t, amount{nil, e}, false, 0)
		wantRound[T](t, amount{list{0, 0}, e}, false, 0)
	}
	for _, e := range []int{math.MinInt, math.MinInt + 1, math.MinInt + 2, math.MinInt32, -4000} {
		wantRound[T](t, amount{nil, e}, true, 0)
	}
	for _, e := range []int{4000, math.MaxInt32, math.MaxInt - 2, math.MaxInt - 1, math.MaxInt} {
		wantRound[T](t, amount{nil, e}, true, k.infinite())
	}
}

// P4.4: e is any int.
func TestRoundEnds(t *testing.T) {
	widths(t, ends[uint16], ends[uint32], ends[uint64], ends[own16], ends[own32], ends[own64])
}

// longLists are numbers whose length and power of 2 stand against each other.
func longLists[T ieee.Bits](t *testing.T) {
	k := kindOf[T]()
	const far = 32 * (api.MaxLimbs - 4)
	for _, size := range finite(few[T]()) {
		if size == 0 {
			continue
		}
		a, mid := k.amountOf(size).finer(far), k.middle(size).finer(far)
		for _, c := range []struct {
			a    amount
			more bool
			want uint64
		}{{a, false, size}, {a, true, size}, {a.less(1), true, size}, {mid, false, size + size%2}, {mid, true, size + 1}, {mid.plus(1), false, size + 1}, {mid.less(1), false, size}, {mid.less(1), true, size}} {
			if got := ieee.Round[T](true, c.a.m, c.a.e, c.more); uint64(got) != c.want+k.sign() {
				t.Errorf("Round of a long list with more %v near %#x = %#x, want %#x", c.more, size, got, c.want+k.sign())
			}
		}
	}
	// More limbs than nat.Shl makes.
	m := make(list, 2*api.MaxLimbs)
	m[len(m)-1] = 3
	top := 32 * (len(m) - 1)
	one := uint64(k.taken-int(k.fraction)) << k.fraction
	wantRound[T](t, amount{m, -top - 1}, true, one+1<<(k.fraction-1))
	wantRound[T](t, amount{m, 0}, false, k.infinite())
	wantRound[T](t, amount{m, -top - 2000}, false, 0)
	wantRound[T](t, amount{m, math.MaxInt}, true, k.infinite())
	wantRound[T](t, amount{m, math.MinInt}, true, 0)
}

func TestRoundLong(t *testing.T) {
	widths(t, longLists[uint16], longLists[uint32], longLists[uint64], longLists[own16], longLists[own32], longLists[own64])
}

func TestRoundKnown(t *testing.T) {
	for _, c := range []struct {
		neg  bool
		m    list
		e    int
		more bool
		want uint16
	}{
		{false, list{1}, 0, false, 0x3c00}, {false, list{2049}, 0, false, 0x6800}, {false, list{2051}, 0, false, 0x6802}, {false, list{2049}, 0, true, 0x6801}, {false, list{65519}, 0, false, 0x7bff}, {false, list{65519}, 0, true, 0x7bff}, {false, list{65520}, 0, false, 0x7c00}, {true, list{65520}, 0, false, 0xfc00},
		{false, list{1}, -25, false, 0}, {false, list{1}, -25, true, 1}, {false, nil, -24, true, 0}, {false, nil, -23, true, 1}, {true, nil, -24, true, 0x8000}, {true, list{3}, -26, false, 0x8001}, {true, nil, 9, false, 0x8000}, {true, list{1}, -25, false, 0x8000},
		{false, list{2047}, -25, false, 0x400}, {false, list{2045}, -25, false, 0x3fe}, {false, list{1023}, -24, false, 0x3ff}, {false, list{1023}, -24, true, 0x400}, {false, list{0, 0, 1, 0}, -64, false, 0x3c00},
	} {
		if got := ieee.Round[uint16](c.neg, c.m, c.e, c.more); got != c.want {
			t.Errorf("Round(%v, %v, %d, %v) = %#x, want %#x", c.neg, c.m, c.e, c.more, got, c.want)
		}
	}
	for _, c := range []struct {
		neg  bool
		m    list
		e    int
		want uint32
	}{{true, nil, 9, 0x80000000}, {false, list{1}, math.MaxInt, 0x7f800000}, {false, list{1}, math.MinInt, 0}, {false, list{16777217}, 0, 0x4b800000}, {false, list{33554431}, 103, 0x7f800000}, {false, list{33554429}, 103, 0x7f7ffffe}, {false, list{16777215}, 104, 0x7f7fffff}} {
		if got := ieee.Round[own32](c.neg, c.m, c.e, false); got != own32(c.want) {
			t.Errorf("Round(%v, %v, %d) = %#x, want %#x", c.neg, c.m, c.e, got, c.want)
		}
	}
}

// The language's own rounding: of whole numbers, and of products with powers of 2 that stay exact or come down to subnormal ones.
func TestRoundAsTheLanguage(t *testing.T) {
	r := rule{21}
	for range 20000 {
		n := r.next() >> r.below(64)
		if got, want := ieee.Round[uint64](false, nat.From(n), 0, false), math.Float64bits(float64(n)); got != want {
			t.Errorf("Round of 64 bits of %d = %#x, want %#x", n, got, want)
		}
		if got, want := ieee.Round[uint32](false, nat.From(n), 0, false), math.Float32bits(float32(n)); got != want {
			t.Errorf("Round of 32 bits of %d = %#x, want %#x", n, got, want)
		}
		n >>= 11
		e := -1140 + r.below(80)
		if got, want := ieee.Round[uint64](false, nat.From(n), e, false), math.Float64bits(math.Ldexp(float64(n), e)); got != want {
			t.Errorf("Round of 64 bits of %d 2^%d = %#x, want %#x", n, e, got, want)
		}
	}
}
