package real_test

import (
	"math"
	"math/bits"
	"testing"

	"crucible/real"
)

// wantWhole is P5.3 in its own words, by the digits of the pattern.
func wantWhole(t *testing.T, x float64) {
	t.Helper()
	want, ok := wholeOf(math.Float64bits(x))
	if got, is := real.Whole(x); got != want || is != ok {
		t.Errorf("Whole(%v, %#x) = %d, %v, want %d, %v", x, math.Float64bits(x), got, is, want, ok)
	}
}

func wholeOf(b uint64) (int64, bool) {
	e, m := int(b>>52&0x7ff), b<<12>>12
	if e == 0 {
		return 0, m == 0
	}
	m |= 1 << 52
	switch shift := e - 1075; {
	case shift < -52 || shift > 11:
		return 0, false
	case shift < 0:
		if bits.TrailingZeros64(m) < -shift {
			return 0, false
		}
		m >>= -shift
	case b == 0xc3e0000000000000: // the lower end
		return math.MinInt64, true
	case shift == 11: // the size is at least 2 to the power of 63
		return 0, false
	default:
		m <<= shift
	}
	if b>>63 == 1 {
		return -int64(m), true
	}
	return int64(m), true
}

// P5.3.
func TestWhole(t *testing.T) {
	for _, b := range many() {
		wantWhole(t, math.Float64frombits(b))
	}
	r := rule{13}
	for e := uint64(1020); e < 1090; e++ {
		for cut := range 53 {
			b := (r.next()>>12)>>cut<<cut | e<<52
			wantWhole(t, math.Float64frombits(b))
			wantWhole(t, math.Float64frombits(b|1<<63))
		}
	}
	for n := range int64(3000) {
		wantWhole(t, float64(n))
		wantWhole(t, -float64(n))
		wantWhole(t, float64(n)/8)
		wantWhole(t, -float64(n)/8)
	}
}

func TestWholeKnown(t *testing.T) {
	for _, c := range []struct {
		x    float64
		want int64
		ok   bool
	}{
		{0, 0, true}, {math.Copysign(0, -1), 0, true}, {1, 1, true}, {-1, -1, true}, {-3, -3, true}, {2.5, 0, false}, {-2.5, 0, false}, {0.5, 0, false}, {-0.5, 0, false}, {0x1.fffffffffffffp-1, 0, false}, {0x1.0000000000001p0, 0, false}, {5e-324, 0, false}, {-5e-324, 0, false}, {2.2250738585072011e-308, 0, false},
		{4503599627370495.5, 0, false}, {4503599627370496, 4503599627370496, true}, {9007199254740991, 9007199254740991, true}, {-9007199254740993, -9007199254740992, true},
		{9223372036854774784, 9223372036854774784, true}, {9223372036854775808, 0, false}, {9223372036854777856, 0, false}, {-9223372036854774784, -9223372036854774784, true}, {-9223372036854775808, math.MinInt64, true}, {-9223372036854777856, 0, false},
		{1.8446744073709552e19, 0, false}, {-1.8446744073709552e19, 0, false}, {1e300, 0, false}, {-1e300, 0, false}, {math.MaxFloat64, 0, false}, {-math.MaxFloat64, 0, false},
		{math.Inf(1), 0, false}, {math.Inf(-1), 0, false}, {math.NaN(), 0, false},
	} {
		if n, ok := real.Whole(c.x); n != c.want || ok != c.ok {
			t.Errorf("Whole(%v) = %d, %v, want %d, %v", c.x, n, ok, c.want, c.ok)
		}
	}
	for _, b := range nones() {
		if n, ok := real.Whole(math.Float64frombits(b)); n != 0 || ok {
			t.Errorf("Whole of the float %#x = %d, %v", b, n, ok)
		}
	}
}

// wantFromWhole is P5.3 in its own words: the size is cut to 53 digits, and what is cut off says whether the next one is nearer.
func wantFromWhole(t *testing.T, n int64) {
	t.Helper()
	size := uint64(n)
	if n < 0 {
		size = -size
	}
	cut := max(bits.Len64(size)-53, 0)
	m, rest := size>>cut, size-size>>cut<<cut
	if half := uint64(1) << cut >> 1; rest > half || rest == half && rest > 0 && m%2 == 1 {
		m++
	}
	want := math.Ldexp(float64(m), cut)
	if n < 0 {
		want = -want
	}
	got, ok := real.FromWhole(n)
	if real.Bits(got) != real.Bits(want) || ok != (rest == 0) {
		t.Errorf("FromWhole(%d) = %v, %v, want %v, %v", n, got, ok, want, rest == 0)
	}
}

// P5.3.
func TestFromWhole(t *testing.T) {
	for n := range int64(2000) {
		for _, base := range []int64{0, 1 << 53, 1 << 54, 1 << 62, -(1 << 53), -(1 << 54), -(1 << 62)} {
			wantFromWhole(t, base+n)
			wantFromWhole(t, base-n)
		}
		wantFromWhole(t, math.MaxInt64-n)
		wantFromWhole(t, math.MinInt64+n)
	}
	// Halfway between two floats, with an even and an odd one below, and next to that.
	r := rule{17}
	for digits := 54; digits <= 63; digits++ {
		for i := range int64(200) {
			m := int64(r.next()>>12 | 1<<52)
			if i < 4 {
				m = 1<<52 + i
			}
			if i >= 196 {
				m = 1<<53 - 200 + i
			}
			n := (2*m + 1) << (digits - 54)
			for _, x := range []int64{n, n - 1, n + 1} {
				wantFromWhole(t, x)
				wantFromWhole(t, -x)
			}
		}
	}
	for range 20000 {
		wantFromWhole(t, int64(r.next())>>(r.next()%63))
	}
}

func TestFromWholeKnown(t *testing.T) {
	for _, c := range []struct {
		n    int64
		want uint64
		ok   bool
	}{
		{0, 0, true}, {1, 0x3ff0000000000000, true}, {-5, 0xc014000000000000, true}, {9007199254740992, 0x4340000000000000, true}, {9007199254740993, 0x4340000000000000, false}, {-9007199254740993, 0xc340000000000000, false}, {9007199254740995, 0x4340000000000002, false}, {9007199254740994, 0x4340000000000001, true},
		{math.MaxInt64, 0x43e0000000000000, false}, {math.MaxInt64 - 511, 0x43e0000000000000, false}, {math.MaxInt64 - 512, 0x43dfffffffffffff, false}, {math.MaxInt64 - 1023, 0x43dfffffffffffff, true}, {math.MinInt64, 0xc3e0000000000000, true}, {math.MinInt64 + 1, 0xc3e0000000000000, false}, {math.MinInt64 + 512, 0xc3e0000000000000, false}, {math.MinInt64 + 513, 0xc3dfffffffffffff, false}, {math.MinInt64 + 1024, 0xc3dfffffffffffff, true},
	} {
		if got, ok := real.FromWhole(c.n); real.Bits(got) != c.want || ok != c.ok {
			t.Errorf("FromWhole(%d) = %v, %v, want %#x, %v", c.n, got, ok, c.want, c.ok)
		}
	}
}
