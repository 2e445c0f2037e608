package real_test

import (
	"math"
	"slices"
	"testing"

	"crucible/real"
)

// patterns are the bits of a list and its spare room, as they are.
func patterns(l []complex128) []uint64 {
	var out []uint64
	for _, c := range l[:cap(l)] {
		out = append(out, math.Float64bits(realOf(c)), math.Float64bits(imag(c)))
	}
	return out
}

// R4: a list that is handed to Plus stays as it was, its spare room too, which says nothing; empty and nil mean the same.
func TestKeepsWhatIsHandedIn(t *testing.T) {
	var room []complex128
	for i, b := range edges() {
		room = append(room, join(b, edges()[(5*i+1)%len(edges())]))
	}
	for _, l := range [][]complex128{
		{}, {1}, {complex(1, 2), complex(3, 4)}, {complex(math.Copysign(0, -1), 0), complex(0, math.Inf(-1))}, {7, 8, 9, 10, 11}, room,
	} {
		in := append(slices.Clone(l), complex(77, 78), complex(math.NaN(), math.Inf(1)), complex(79, 80))[:len(l)]
		before := patterns(in)
		got := real.Plus(in...)
		if !slices.Equal(patterns(in), before) {
			t.Errorf("%v is changed, or its spare room", l)
		}
		if plain := real.Plus(slices.Clip(slices.Clone(l))...); !real.SameComplex(got, plain) {
			t.Errorf("the spare room of %v makes a difference: %v, want %v", l, got, plain)
		}
		// What was handed in is not kept: another sum in the same room is a sum by itself.
		for i := range in[:cap(in)] {
			in[:cap(in)][i] = complex(-5, 5)
		}
		real.Plus(in...)
		if again := real.Plus(l...); !real.SameComplex(again, got) {
			t.Errorf("Plus of %v, asked again: %v, want %v", l, again, got)
		}
	}
	if a, b := real.Plus([]complex128{}...), real.Plus([]complex128(nil)...); !real.SameComplex(a, 0) || !real.SameComplex(b, 0) {
		t.Errorf("empty and nil: %v, %v", a, b)
	}
}

// R1: no call panics, every call ends. R5: what is answered once is answered again.
func TestAnything(t *testing.T) {
	r := rule{41}
	l := many()
	for i, b := range l {
		x, y := math.Float64frombits(b), math.Float64frombits(l[r.next()%uint64(len(l))])
		s, _ := real.Single(x)
		again, _ := real.Single(x)
		if real.Bits32(s) != real.Bits32(again) {
			t.Errorf("Single(%v), asked again: %v, %v", x, s, again)
		}
		real.Bits32(real.Float32(uint32(r.next())))
		real.Half(x)
		real.FromHalf(uint16(i))
		real.Whole(x)
		real.FromWhole(int64(b))
		real.Same(x, y)
		real.Cmp(x, y)
		c, d := real.Join(x, y), real.Join(y, x)
		real.SameComplex(c, d)
		if sum := real.Plus(c, d); !real.SameComplex(sum, real.Plus(c, d)) {
			t.Errorf("Plus(%v, %v), asked again: %v", c, d, sum)
		}
		real.Minus(c, d)
		real.Flip(c)
	}
}
