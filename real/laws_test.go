package real_test

import (
	"math"
	"slices"
	"testing"

	"crucible/ieee"
	"crucible/real"
	"crucible/whole"
)

// halfways are floats of 64 bits halfway between two halves, and between two floats of 32 bits, and those next to them.
func halfways() []uint64 {
	var sizes []float64
	for p := range uint16(0x7c00) {
		sizes = append(sizes, halfSize(p)/2+halfSize(p+1)/2)
	}
	for _, p := range singles() {
		sizes = append(sizes, singleSize(p)/2+singleSize(p+1)/2)
	}
	var l []uint64
	for _, x := range sizes {
		for _, y := range around(x) {
			l = append(l, math.Float64bits(y))
		}
	}
	return l
}

// P5.7: the calls of one float agree with chapter 4's calls of its pattern.
func TestAgreesWithPatterns(t *testing.T) {
	for _, b := range slices.Concat(many(), halfways()) {
		x := real.Float(b)
		if want, _ := ieee.To[uint64](b); real.Bits(x) != want {
			t.Errorf("Bits of the float %#x = %#x, ieee.To %#x", b, real.Bits(x), want)
		}
		s, same := real.Single(x)
		if want, ok := ieee.To[uint32](b); real.Bits32(s) != want || same != ok {
			t.Errorf("Single of the float %#x = %#x, %v, ieee.To %#x, %v", b, real.Bits32(s), same, want, ok)
		}
		h, same := real.Half(x)
		if want, ok := ieee.To[uint16](b); h != want || same != ok {
			t.Errorf("Half of the float %#x = %#x, %v, ieee.To %#x, %v", b, h, same, want, ok)
		}
		n, is := real.Whole(x)
		exact, ok := ieee.Int(b)
		want, fits := whole.Int64(exact)
		if !ok || !fits {
			want = 0
		}
		if n != want || is != (ok && fits) {
			t.Errorf("Whole of the float %#x = %d, %v, ieee.Int %v, %v", b, n, is, exact, ok)
		}
	}
}

// P5.7.
func TestFromHalfAgrees(t *testing.T) {
	for h := range 1 << 16 {
		x := real.FromHalf(uint16(h))
		if want, _ := ieee.To[uint64](uint16(h)); real.Bits(x) != want {
			t.Errorf("FromHalf(%#x) has the pattern %#x, ieee.To %#x", h, real.Bits(x), want)
		}
		// The way back; of all that are no number the one pattern.
		want, _ := ieee.To[uint16](uint16(h))
		if back, same := real.Half(x); back != want || !same {
			t.Errorf("Half of FromHalf(%#x) = %#x, %v", h, back, same)
		}
	}
}

// P5.7: FromHalf of Half of a half is that half.
func TestHalfThereAndBack(t *testing.T) {
	for p := range uint16(0x7c01) {
		x := halfSize(p)
		if p == 0x7c00 {
			x = math.Inf(1)
		}
		for _, y := range []float64{x, -x} {
			h, _ := real.Half(y)
			if back := real.FromHalf(h); !real.Same(back, y) {
				t.Errorf("FromHalf of Half(%v) = %v", y, back)
			}
		}
	}
	h, _ := real.Half(math.NaN())
	if back := real.FromHalf(h); back == back {
		t.Errorf("FromHalf of Half of no number = %v", back)
	}
}

// P5.7: both widths, and whole numbers that FromWhole tells with true.
func TestFromWholeAgrees(t *testing.T) {
	r := rule{29}
	l := []int64{0, 1, -1, math.MaxInt64, math.MinInt64, math.MaxInt64 - 1, math.MinInt64 + 1}
	for _, b := range []int64{1 << 53, 1 << 54, 1 << 62, math.MaxInt64 - 3000, math.MinInt64 + 3000} {
		for n := int64(-3000); n <= 3000; n++ {
			l = append(l, b+n, -b+n)
		}
	}
	for range 20000 {
		n := int64(r.next())
		l = append(l, n, n>>(r.next()%63), n>>11<<11, n>>10<<10)
	}
	for _, n := range l {
		x, same := real.FromWhole(n)
		if want, ok := ieee.From[uint64](whole.From(n)); real.Bits(x) != want || same != ok {
			t.Errorf("FromWhole(%d) = %v, %v, ieee.From %#x, %v", n, x, same, want, ok)
		}
		if back, ok := real.Whole(x); same && (back != n || !ok) {
			t.Errorf("Whole of FromWhole(%d) = %d, %v", n, back, ok)
		}
	}
}

// P5.7.
func TestCmpAgrees(t *testing.T) {
	r := rule{31}
	compare := func(a, b uint64) {
		n, is := real.Cmp(real.Float(a), real.Float(b))
		if want, ok := ieee.Cmp(a, b); n != want || is != ok {
			t.Errorf("Cmp(%#x, %#x) = %d, %v, ieee.Cmp %d, %v", a, b, n, is, want, ok)
		}
	}
	for _, a := range edges() {
		for _, b := range edges() {
			compare(a, b)
		}
	}
	for _, b := range many() {
		compare(b, b)
		compare(b, b+1)
		compare(b, b^1<<63)
		compare(b, r.next())
	}
}

// P5.7: no finite one of the width is nearer. (A difference that is rounded here is rounded alike with the others, so that no lesser one comes out greater.)
func TestNoneIsNearer(t *testing.T) {
	for _, b := range slices.Concat(many(), halfways()) {
		x := math.Abs(math.Float64frombits(b))
		if isNone(b) || isInfinite(b) {
			continue
		}
		if h, _ := real.Half(x); h < 0x7c00 {
			for _, p := range []uint16{max(h, 1) - 1, min(h+1, 0x7bff)} {
				if math.Abs(x-halfSize(p)) < math.Abs(x-halfSize(h)) {
					t.Errorf("Half(%v) = %#x, but %#x is nearer", x, h, p)
				}
			}
		}
		if s, _ := real.Single(x); !math.IsInf(float64(s), 0) {
			q := math.Float32bits(s)
			for _, p := range []uint32{max(q, 1) - 1, min(q+1, 0x7f7fffff)} {
				if math.Abs(x-singleSize(p)) < math.Abs(x-singleSize(q)) {
					t.Errorf("Single(%v) = %v, but %v is nearer", x, s, singleSize(p))
				}
			}
		}
	}
}

// P5.7: a sum of many is the sum of the first few, and the others added to it.
func TestSumInTwo(t *testing.T) {
	r := rule{37}
	e := edges()
	for n := range 12 {
		for range 40 {
			var l []complex128
			for range n {
				c := join(r.near(0x3ff<<52), r.near(0x3ff<<52))
				if r.next()%4 == 0 {
					c = join(e[r.next()%uint64(len(e))], e[r.next()%uint64(len(e))])
				}
				l = append(l, c)
			}
			all := real.Plus(l...)
			for i := range n + 1 {
				first := real.Plus(l[:i]...)
				if two := real.Plus(slices.Concat([]complex128{first}, l[i:])...); !real.SameComplex(two, all) {
					t.Errorf("Plus of %v: %v, of the first %d and the others %v", l, all, i, two)
				}
			}
		}
	}
}
