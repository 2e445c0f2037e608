package real_test

import (
	"math"
	"testing"

	"crucible/real"
)

const (
	none64 = 0x7ff8000000000000
	none32 = 0x7fc00000
)

// P5.1.
func TestBitsAndFloat(t *testing.T) {
	for _, b := range many() {
		x := real.Float(b)
		if isNone(b) {
			if x == x {
				t.Errorf("Float(%#x) = %v, want no number", b, x)
			}
			if got := real.Bits(x); got != none64 {
				t.Errorf("Bits of Float(%#x) = %#x, want %#x", b, got, uint64(none64))
			}
			if got := real.Bits(math.Float64frombits(b)); got != none64 {
				t.Errorf("Bits of the float %#x = %#x, want %#x", b, got, uint64(none64))
			}
			continue
		}
		if got := math.Float64bits(x); got != b {
			t.Errorf("Float(%#x) has the bits %#x", b, got)
		}
		if got := real.Bits(x); got != b {
			t.Errorf("Bits of Float(%#x) = %#x", b, got)
		}
	}
}

// P5.1: what a pattern is, in the words of the document.
func TestFloatIsItsNumber(t *testing.T) {
	for _, b := range many() {
		if isNone(b) || isInfinite(b) {
			continue
		}
		e, fraction := int(b>>52&0x7ff), b<<12>>12
		want := math.Ldexp(float64(fraction), -1074)
		if e > 0 {
			want = math.Ldexp(float64(fraction|1<<52), e-1075)
		}
		if b>>63 == 1 {
			want = -want
		}
		if got := real.Float(b); got != want || math.Signbit(got) != math.Signbit(want) {
			t.Errorf("Float(%#x) = %v, want %v", b, got, want)
		}
	}
}

func TestBitsKnown(t *testing.T) {
	low := math.Copysign(0, -1)
	for _, c := range []struct {
		x    float64
		want uint64
	}{
		{0, 0}, {low, 1 << 63}, {1, 0x3ff0000000000000}, {-1, 0xbff0000000000000}, {0.1, 0x3fb999999999999a}, {5e-324, 1}, {-5e-324, 0x8000000000000001},
		{2.2250738585072011e-308, 0x000fffffffffffff}, {2.2250738585072014e-308, 0x0010000000000000}, {math.MaxFloat64, 0x7fefffffffffffff}, {-math.MaxFloat64, 0xffefffffffffffff},
		{math.Inf(1), 0x7ff0000000000000}, {math.Inf(-1), 0xfff0000000000000}, {math.NaN(), none64}, {-math.NaN(), none64}, {math.Inf(1) - math.Inf(1), none64},
	} {
		if got := real.Bits(c.x); got != c.want {
			t.Errorf("Bits(%v) = %#x, want %#x", c.x, got, c.want)
		}
	}
	for _, c := range []struct {
		x    float32
		want uint32
	}{
		{0, 0}, {float32(low), 1 << 31}, {1, 0x3f800000}, {-1.5, 0xbfc00000}, {0.1, 0x3dcccccd}, {1e-45, 1}, {-1e-45, 0x80000001},
		{1.1754942e-38, 0x007fffff}, {1.1754944e-38, 0x00800000}, {math.MaxFloat32, 0x7f7fffff}, {-math.MaxFloat32, 0xff7fffff},
		{float32(math.Inf(1)), 0x7f800000}, {float32(math.Inf(-1)), 0xff800000}, {float32(math.NaN()), none32}, {-float32(math.NaN()), none32},
	} {
		if got := real.Bits32(c.x); got != c.want {
			t.Errorf("Bits32(%v) = %#x, want %#x", c.x, got, c.want)
		}
	}
}

// P5.1.
func TestBits32AndFloat32(t *testing.T) {
	for _, p := range singles() {
		for _, b := range []uint32{p, p | 1<<31} {
			x := real.Float32(b)
			want := singleSize(p)
			if b != p {
				want = -want
			}
			if float64(x) != want || math.Signbit(float64(x)) != (b != p) {
				t.Errorf("Float32(%#x) = %v, want %v", b, x, want)
			}
			if got := real.Bits32(x); got != b {
				t.Errorf("Bits32 of Float32(%#x) = %#x", b, got)
			}
		}
	}
	for _, sign := range []uint32{0, 1 << 31} {
		infinite := sign | 0x7f800000
		if x := real.Float32(infinite); !math.IsInf(float64(x), 1-2*int(sign>>31)) || real.Bits32(x) != infinite {
			t.Errorf("Float32(%#x) = %v, its pattern %#x", infinite, x, real.Bits32(x))
		}
		for _, fraction := range []uint32{1, 2, 0x7fffff, 0x400000, 0x400001, 0x3fffff, 0x12345} {
			b := infinite | fraction
			if x := real.Float32(b); x == x || real.Bits32(x) != none32 {
				t.Errorf("Float32(%#x) = %v, its pattern %#x", b, x, real.Bits32(x))
			}
			if got := real.Bits32(math.Float32frombits(b)); got != none32 {
				t.Errorf("Bits32 of the float %#x = %#x", b, got)
			}
		}
	}
}
