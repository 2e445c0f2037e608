package real_test

import (
	"math"
	"testing"

	"crucible/api"
	"crucible/ieee"
	"crucible/nat"
	"crucible/real"
	"crucible/whole"
)

const (
	plus64  = 0x7ff0000000000000
	minus64 = 0xfff0000000000000
)

// steps is how many of the least steps of 64 bits a finite pattern is.
func steps(b uint64) api.Int {
	neg, m, e, _ := ieee.Parts(b)
	size, _ := nat.Shl(nat.From(m), e+1074)
	if len(size) == 0 {
		return api.Int{}
	}
	return api.Int{Neg: neg, Mag: size}
}

// sumOf is a sum in the document's words, exactly known ahead of its rounding.
func sumOf(a, b uint64) uint64 {
	switch {
	case isNone(a) || isNone(b) || isInfinite(a) && isInfinite(b) && a != b:
		return none64
	case isInfinite(a):
		return a
	case isInfinite(b):
		return b
	}
	exact := whole.Add(steps(a), steps(b))
	if len(exact.Mag) == 0 {
		if a == 1<<63 && b == 1<<63 {
			return 1 << 63
		}
		return 0
	}
	return ieee.Round[uint64](exact.Neg, exact.Mag, -1074, false)
}

// differenceOf is a difference: what is taken off with its sign turned is added.
func differenceOf(a, b uint64) uint64 {
	return sumOf(a, b^1<<63)
}

// join is a complex number of two patterns, made without the package.
func join(re, im uint64) complex128 {
	return complex(math.Float64frombits(re), math.Float64frombits(im))
}

// canonical is the one pattern for all that are no number.
func canonical(b uint64) uint64 {
	if isNone(b) {
		return none64
	}
	return b
}

// wantParts asks for two patterns, by the language's own means.
func wantParts(t *testing.T, what string, c complex128, re, im uint64) {
	t.Helper()
	x, y := canonical(math.Float64bits(realOf(c))), canonical(math.Float64bits(imag(c)))
	if re, im = canonical(re), canonical(im); x != re || y != im {
		t.Errorf("%s = %#x and %#x, want %#x and %#x", what, x, y, re, im)
	}
}

// P5.5: the parts as they are, each by itself.
func TestJoinAndSplit(t *testing.T) {
	for _, a := range edges() {
		for _, b := range edges() {
			wantParts(t, "Join", real.Join(math.Float64frombits(a), math.Float64frombits(b)), a, b)
			x, y := real.Split(join(a, b))
			wantParts(t, "Split", complex(x, y), a, b)
		}
	}
	if c := real.Join(1.5, -2); c != complex(1.5, -2) {
		t.Errorf("Join(1.5, -2) = %v", c)
	}
	if x, y := real.Split(complex(1.5, -2)); x != 1.5 || y != -2 {
		t.Errorf("Split of 1.5 and -2 = %v, %v", x, y)
	}
}

// P5.5: each pair of edges as real parts and as imaginary ones, the other parts the same or not.
func TestSameComplex(t *testing.T) {
	others := []uint64{0, 1 << 63, 0x3ff0000000000000, plus64, none64, 0xfff0000000000001}
	for _, a := range edges() {
		for _, b := range edges() {
			for _, c := range others {
				for _, d := range others {
					want := canonical(a) == canonical(b) && canonical(c) == canonical(d)
					if got := real.SameComplex(join(a, c), join(b, d)); got != want {
						t.Errorf("SameComplex(%#x and %#x, %#x and %#x) = %v", a, c, b, d, got)
					}
					if got := real.SameComplex(join(c, a), join(d, b)); got != want {
						t.Errorf("SameComplex(%#x and %#x, %#x and %#x) = %v", c, a, d, b, got)
					}
				}
			}
		}
	}
	if real.SameComplex(complex(1, 2), complex(2, 1)) {
		t.Errorf("SameComplex takes the one part for the other")
	}
}

// wantPlus asks for the sum of all of them, from 0 and 0 on.
func wantPlus(t *testing.T, l ...complex128) {
	t.Helper()
	var re, im uint64
	for _, c := range l {
		re, im = sumOf(re, math.Float64bits(realOf(c))), sumOf(im, math.Float64bits(imag(c)))
	}
	wantParts(t, "Plus", real.Plus(l...), re, im)
}

// P5.6: of one, and of each pair of edges, beside a pair that adds up to something else.
func TestPlusEdges(t *testing.T) {
	l := edges()
	for i, a := range l {
		wantPlus(t, join(a, l[(i+7)%len(l)]))
		for j, b := range l {
			wantPlus(t, join(a, l[(i+j)%len(l)]), join(b, l[(i+3*j+1)%len(l)]))
		}
	}
}

// P5.6.
func TestMinus(t *testing.T) {
	l := edges()
	for i, a := range l {
		for j, b := range l {
			c, d := l[(i+j)%len(l)], l[(i+3*j+1)%len(l)]
			wantParts(t, "Minus", real.Minus(join(a, c), join(b, d)), differenceOf(a, b), differenceOf(c, d))
		}
	}
}

// near is a pattern by chance whose exponent is that of b or close to it, so that a sum of both is rounded, or its highest digits cancel.
func (r *rule) near(b uint64) uint64 {
	e := b>>52&0x7ff + r.next()%60
	return r.next()&(1<<63|1<<52-1) | min(max(e, 30)-30, 2046)<<52
}

// P5.6: sums and differences that are rounded, halfway ones among them.
func TestSumsByChance(t *testing.T) {
	r := rule{19}
	for range 20000 {
		a, c := r.next(), r.next()
		b, d := r.near(a), r.near(c)
		if r.next()%2 == 0 {
			b = b >> 40 << 40
			d = d >> 50 << 50
		}
		wantPlus(t, join(a, c), join(b, d))
		wantParts(t, "Minus", real.Minus(join(a, c), join(b, d)), differenceOf(a, b), differenceOf(c, d))
	}
}

// P5.6: many, in their order.
func TestPlusMany(t *testing.T) {
	r := rule{23}
	for n := range 120 {
		var l []complex128
		for range n {
			l = append(l, join(r.near(0x3ff<<52), r.near(0x020<<52)))
		}
		wantPlus(t, l...)
		// One that is no number, or infinite, stays in its own part alone.
		for _, b := range []uint64{none64, plus64, minus64} {
			if n > 0 {
				l[n/2] = join(b, 0x3ff0000000000000)
				wantPlus(t, l...)
			}
		}
	}
	ones := make([]complex128, 100000)
	for i := range ones {
		ones[i] = complex(1, -0.5)
	}
	wantParts(t, "Plus of many", real.Plus(ones...), math.Float64bits(100000), math.Float64bits(-50000))
}

func TestPlusKnown(t *testing.T) {
	low, inf, none := math.Copysign(0, -1), math.Inf(1), math.NaN()
	const great = 9007199254740992 // to which 1 is added without a change
	for _, c := range []struct {
		l      []complex128
		re, im float64
	}{
		{nil, 0, 0}, {[]complex128{}, 0, 0},
		{[]complex128{complex(low, low)}, 0, 0}, {[]complex128{complex(low, low), complex(low, low)}, 0, 0}, {[]complex128{complex(low, 1), complex(low, 2)}, 0, 3}, {[]complex128{complex(low, 0), complex(0, low)}, 0, 0},
		{[]complex128{complex(1, -1), complex(-1, 1)}, 0, 0}, {[]complex128{complex(1.5, -2)}, 1.5, -2}, {[]complex128{complex(1, 2), complex(3, 4), complex(5, 6)}, 9, 12},
		{[]complex128{complex(great, 1), complex(1, 1), complex(1, great)}, great, great + 2}, {[]complex128{complex(0.1, 0), complex(0.2, 0)}, 0.30000000000000004, 0},
		{[]complex128{complex(1e308, 1), complex(1e308, inf)}, inf, inf}, {[]complex128{complex(1e308, 1), complex(1e308, inf), complex(0, -inf)}, inf, none}, {[]complex128{complex(-1e308, 0), complex(-1e308, 0)}, -inf, 0}, {[]complex128{complex(1e308, 0), complex(1e308, 0), complex(-1e308, 0)}, inf, 0},
		{[]complex128{complex(inf, -inf), complex(inf, -inf)}, inf, -inf}, {[]complex128{complex(inf, 5), complex(-inf, 6)}, none, 11}, {[]complex128{complex(5, -inf), complex(6, inf)}, 11, none}, {[]complex128{complex(none, 1), complex(1, 1), complex(inf, 1)}, none, 3}, {[]complex128{complex(1, inf), complex(none, 1)}, none, inf},
		{[]complex128{complex(5e-324, -5e-324), complex(5e-324, 5e-324)}, 1e-323, 0},
	} {
		wantParts(t, "Plus", real.Plus(c.l...), math.Float64bits(c.re), math.Float64bits(c.im))
	}
	wantParts(t, "Plus()", real.Plus(), 0, 0)
}

func TestMinusKnown(t *testing.T) {
	low, inf, none := math.Copysign(0, -1), math.Inf(1), math.NaN()
	for _, c := range []struct {
		a, b   complex128
		re, im float64
	}{
		{complex(1, 1), complex(1, 2), 0, -1}, {complex(5, 7), complex(2, 3), 3, 4}, {complex(0, low), complex(0, 0), 0, low}, {complex(low, 0), complex(0, low), low, 0}, {complex(low, low), complex(low, low), 0, 0}, {complex(-1, 1), complex(-1, 1), 0, 0},
		{complex(inf, -inf), complex(-inf, inf), inf, -inf}, {complex(inf, 1), complex(inf, 2), none, -1}, {complex(1, -inf), complex(2, -inf), -1, none}, {complex(1, 2), complex(inf, -inf), -inf, inf}, {complex(none, 1), complex(1, none), none, none}, {complex(1e308, -1e308), complex(-1e308, 1e308), inf, -inf},
	} {
		wantParts(t, "Minus", real.Minus(c.a, c.b), math.Float64bits(c.re), math.Float64bits(c.im))
	}
}

// P5.6: each pair of edges.
func TestFlip(t *testing.T) {
	for _, a := range edges() {
		for _, b := range edges() {
			wantParts(t, "Flip", real.Flip(join(a, b)), a, b^1<<63)
		}
	}
	wantParts(t, "Flip of 1 and 0", real.Flip(complex(1, 0)), 0x3ff0000000000000, 1<<63)
	wantParts(t, "Flip of 2 and -3", real.Flip(complex(2, -3)), 0x4000000000000000, 0x4008000000000000)
}
