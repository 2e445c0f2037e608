package real_test

import (
	"math"
	"testing"

	"crucible/real"
)

// wantSingle is P5.2 in its own words, the nearest one sought by the reference.
func wantSingle(t *testing.T, x float64) {
	t.Helper()
	want, same := uint32(none32), true
	switch {
	case math.IsInf(x, 0):
		want = 0x7f800000 | uint32(signOf(x))<<31
	case x == x:
		p := nearestSingle(math.Abs(x))
		same = p < 0x7f800000 && singleSize(p) == math.Abs(x)
		want = p | uint32(signOf(x))<<31
	}
	got, ok := real.Single(x)
	bits := math.Float32bits(got)
	if got != got {
		bits = none32
	}
	if bits != want || ok != same {
		t.Errorf("Single(%v, %#x) = %#x, %v, want %#x, %v", x, math.Float64bits(x), bits, ok, want, same)
	}
}

// wantHalf likewise.
func wantHalf(t *testing.T, x float64) {
	t.Helper()
	want, same := uint16(0x7e00), true
	switch {
	case math.IsInf(x, 0):
		want = 0x7c00 | uint16(signOf(x))<<15
	case x == x:
		p := nearestHalf(math.Abs(x))
		same = p < 0x7c00 && halfSize(p) == math.Abs(x)
		want = p | uint16(signOf(x))<<15
	}
	if got, ok := real.Half(x); got != want || ok != same {
		t.Errorf("Half(%v, %#x) = %#x, %v, want %#x, %v", x, math.Float64bits(x), got, ok, want, same)
	}
}

// P5.2.
func TestRoundMany(t *testing.T) {
	for _, b := range many() {
		x := math.Float64frombits(b)
		wantSingle(t, x)
		wantHalf(t, x)
	}
	// By chance among the exponents that the two widths have.
	r := rule{11}
	for range 50000 {
		wantSingle(t, math.Float64frombits(r.next()&(1<<63|1<<52-1)|(870+r.next()%284)<<52))
		wantHalf(t, math.Float64frombits(r.next()&(1<<63|1<<52-1)|(995+r.next()%46)<<52))
	}
}

// P5.2: every float of 32 bits of the list, what is halfway to the next one, and what lies next to these; the greatest and 2 to the power of 128 too.
func TestSingleHalfway(t *testing.T) {
	for _, p := range singles() {
		low, high := singleSize(p), singleSize(p+1)
		middle := low/2 + high/2
		even := p + p%2
		up := p + 1
		for _, c := range []struct {
			x    float64
			want uint32
			same bool
		}{
			{low, p, true}, {math.Float64frombits(math.Float64bits(low) + 1), p, false},
			{math.Float64frombits(math.Float64bits(middle) - 1), p, false}, {middle, even, false}, {math.Float64frombits(math.Float64bits(middle) + 1), up, false},
			{math.Float64frombits(math.Float64bits(high) - 1), up, false}, {high, up, up < 0x7f800000},
		} {
			for _, sign := range []uint32{0, 1} {
				x := c.x
				if sign == 1 {
					x = -x
				}
				got, ok := real.Single(x)
				if bits := math.Float32bits(got); bits != c.want|sign<<31 || ok != c.same {
					t.Errorf("Single(%v) = %#x, %v, want %#x, %v", x, bits, ok, c.want|sign<<31, c.same)
				}
			}
		}
		for _, x := range around(middle) {
			wantSingle(t, x)
		}
	}
}

// P5.2: every finite half, what is halfway to the next one, and what lies next to these; the greatest and 65536 too.
func TestHalfHalfway(t *testing.T) {
	for p := range uint16(0x7c00) {
		low, high := halfSize(p), halfSize(p+1)
		middle := low/2 + high/2
		even := p + p%2
		up := p + 1
		for _, c := range []struct {
			x    float64
			want uint16
			same bool
		}{
			{low, p, true}, {math.Float64frombits(math.Float64bits(low) + 1), p, false},
			{math.Float64frombits(math.Float64bits(middle) - 1), p, false}, {middle, even, false}, {math.Float64frombits(math.Float64bits(middle) + 1), up, false},
			{math.Float64frombits(math.Float64bits(high) - 1), up, false}, {high, up, up < 0x7c00},
		} {
			for _, sign := range []uint16{0, 1} {
				x := c.x
				if sign == 1 {
					x = -x
				}
				if got, ok := real.Half(x); got != c.want|sign<<15 || ok != c.same {
					t.Errorf("Half(%v) = %#x, %v, want %#x, %v", x, got, ok, c.want|sign<<15, c.same)
				}
			}
		}
		for _, x := range around(middle) {
			wantHalf(t, x)
		}
	}
}

func TestSingleKnown(t *testing.T) {
	for _, c := range []struct {
		x    float64
		want uint32
		ok   bool
	}{
		{1.5, 0x3fc00000, true}, {0.1, 0x3dcccccd, false}, {-0.1, 0xbdcccccd, false}, {1e39, 0x7f800000, false}, {-1e39, 0xff800000, false}, {math.MaxFloat64, 0x7f800000, false}, {-math.MaxFloat64, 0xff800000, false},
		{0, 0, true}, {math.Copysign(0, -1), 0x80000000, true}, {5e-324, 0, false}, {-5e-324, 0x80000000, false},
		{0x1p-149, 1, true}, {0x1p-150, 0, false}, {-0x1p-150, 0x80000000, false}, {0x1.0000000000001p-150, 1, false}, {0x1.8p-149, 2, false}, {0x1.fffffcp-127, 0x007fffff, true}, {0x1.fffffep-127, 0x00800000, false}, {0x1.fffffdfffffffp-127, 0x007fffff, false},
		{0x1.fffffep127, 0x7f7fffff, true}, {0x1.fffffefffffffp127, 0x7f7fffff, false}, {0x1.ffffffp127, 0x7f800000, false}, {-0x1.ffffffp127, 0xff800000, false}, {0x1p128, 0x7f800000, false},
		{0x1.000001p0, 0x3f800000, false}, {0x1.0000010000001p0, 0x3f800001, false}, {0x1.000003p0, 0x3f800002, false}, {0x1.0000000000001p0, 0x3f800000, false},
		{math.Inf(1), 0x7f800000, true}, {math.Inf(-1), 0xff800000, true}, {math.NaN(), none32, true},
	} {
		if got, ok := real.Single(c.x); real.Bits32(got) != c.want || ok != c.ok {
			t.Errorf("Single(%v) = %v, %v, want %#x, %v", c.x, got, ok, c.want, c.ok)
		}
	}
	for _, b := range nones() {
		if got, ok := real.Single(math.Float64frombits(b)); got == got || !ok {
			t.Errorf("Single of the float %#x = %v, %v", b, got, ok)
		}
	}
}

func TestHalfKnown(t *testing.T) {
	for _, c := range []struct {
		x    float64
		want uint16
		ok   bool
	}{
		{1, 0x3c00, true}, {1.0009765625, 0x3c01, true}, {1.00048828125, 0x3c00, false}, {1.0014648437, 0x3c01, false}, {1.00146484375, 0x3c02, false}, {-1.00146484375, 0xbc02, false}, {0x1.0020000000001p0, 0x3c01, false},
		{65504, 0x7bff, true}, {65519.99, 0x7bff, false}, {65520, 0x7c00, false}, {-65520, 0xfc00, false}, {65535.999, 0x7c00, false}, {65536, 0x7c00, false}, {-65536, 0xfc00, false}, {1e300, 0x7c00, false}, {-1e300, 0xfc00, false}, {math.MaxFloat64, 0x7c00, false},
		{0.00000005960464477539063, 1, true}, {0.0000000298023223876953125, 0, false}, {-0.0000000298023223876953, 0x8000, false}, {0x1.0000000000001p-25, 1, false}, {-0x1.0000000000001p-25, 0x8001, false}, {0x1.8p-24, 2, false}, {0x1.7ffffffffffffp-24, 1, false},
		{0x1.ff8p-15, 0x03ff, true}, {0x1.ffcp-15, 0x0400, false}, {0x1.ffbffffffffffp-15, 0x03ff, false}, {0x1p-14, 0x0400, true}, {0x1.002p-14, 0x0400, false}, {0x1.006p-14, 0x0402, false},
		{0, 0, true}, {math.Copysign(0, -1), 0x8000, true}, {5e-324, 0, false}, {-5e-324, 0x8000, false}, {2.2250738585072014e-308, 0, false},
		{math.Inf(1), 0x7c00, true}, {math.Inf(-1), 0xfc00, true}, {math.NaN(), 0x7e00, true},
	} {
		if got, ok := real.Half(c.x); got != c.want || ok != c.ok {
			t.Errorf("Half(%v) = %#x, %v, want %#x, %v", c.x, got, ok, c.want, c.ok)
		}
	}
	for _, b := range nones() {
		if got, ok := real.Half(math.Float64frombits(b)); got != 0x7e00 || !ok {
			t.Errorf("Half of the float %#x = %#x, %v", b, got, ok)
		}
	}
}

// P5.2: FromHalf of every pattern.
func TestFromHalf(t *testing.T) {
	for h := range 1 << 16 {
		p := uint16(h) &^ 0x8000
		want := halfSize(p)
		if p == 0x7c00 {
			want = math.Inf(1)
		}
		if h > 0x7fff {
			want = -want
		}
		got := real.FromHalf(uint16(h))
		if p > 0x7c00 {
			if got == got {
				t.Errorf("FromHalf(%#x) = %v, want no number", h, got)
			}
			continue
		}
		if got != want || math.Signbit(got) != (h > 0x7fff) {
			t.Errorf("FromHalf(%#x) = %v, want %v", h, got, want)
		}
	}
	for _, c := range []struct {
		h    uint16
		want float64
	}{{0, 0}, {1, 1.0 / 16777216}, {0x3ff, 1023.0 / 16777216}, {0x400, 1.0 / 16384}, {0x3c00, 1}, {0xc000, -2}, {0x7bff, 65504}, {0xfbff, -65504}, {0x7c00, math.Inf(1)}, {0xfc00, math.Inf(-1)}} {
		if got := real.FromHalf(c.h); got != c.want {
			t.Errorf("FromHalf(%#x) = %v, want %v", c.h, got, c.want)
		}
	}
}
