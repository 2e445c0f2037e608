package real_test

import (
	"cmp"
	"math"
	"testing"

	"crucible/real"
)

// P5.4: each pair of edges, with each sign.
func TestSame(t *testing.T) {
	for _, a := range edges() {
		for _, b := range edges() {
			want := a == b || isNone(a) && isNone(b)
			if got := real.Same(math.Float64frombits(a), math.Float64frombits(b)); got != want {
				t.Errorf("Same(%#x, %#x) = %v", a, b, got)
			}
		}
	}
}

// P5.4: floats that rise, by their places; the noughts have one place.
func TestCmp(t *testing.T) {
	type placed struct {
		x     float64
		place int
	}
	var l []placed
	for i, b := range rising() {
		l = append(l, placed{math.Float64frombits(b), i}, placed{math.Float64frombits(b | 1<<63), -i})
	}
	for _, a := range l {
		for _, b := range l {
			if n, ok := real.Cmp(a.x, b.x); n != cmp.Compare(a.place, b.place) || !ok {
				t.Errorf("Cmp(%v, %v) = %d, %v", a.x, b.x, n, ok)
			}
		}
		for _, b := range nones() {
			none := math.Float64frombits(b)
			if n, ok := real.Cmp(a.x, none); n != 0 || ok {
				t.Errorf("Cmp(%v, no number) = %d, %v", a.x, n, ok)
			}
			if n, ok := real.Cmp(none, a.x); n != 0 || ok {
				t.Errorf("Cmp(no number, %v) = %d, %v", a.x, n, ok)
			}
		}
	}
	for _, a := range nones() {
		for _, b := range nones() {
			if n, ok := real.Cmp(math.Float64frombits(a), math.Float64frombits(b)); n != 0 || ok {
				t.Errorf("Cmp(%#x, %#x) = %d, %v", a, b, n, ok)
			}
		}
	}
}

func TestOrderKnown(t *testing.T) {
	low, none := math.Copysign(0, -1), math.NaN()
	for _, c := range []struct {
		x, y float64
		same bool
		n    int
		ok   bool
	}{
		{0, low, false, 0, true}, {low, 0, false, 0, true}, {low, low, true, 0, true}, {0, 0, true, 0, true}, {none, none, true, 0, false}, {none, -none, true, 0, false}, {none, 1, false, 0, false}, {1, none, false, 0, false},
		{math.Inf(-1), 1, false, -1, true}, {math.Inf(1), math.MaxFloat64, false, 1, true}, {math.Inf(1), math.Inf(1), true, 0, true}, {math.Inf(1), math.Inf(-1), false, 1, true}, {none, math.Inf(1), false, 0, false},
		{2, 1, false, 1, true}, {-2, 1, false, -1, true}, {-2, -1, false, -1, true}, {5e-324, 0, false, 1, true}, {-5e-324, low, false, -1, true}, {1, 1, true, 0, true},
	} {
		if got := real.Same(c.x, c.y); got != c.same {
			t.Errorf("Same(%v, %v) = %v", c.x, c.y, got)
		}
		if n, ok := real.Cmp(c.x, c.y); n != c.n || ok != c.ok {
			t.Errorf("Cmp(%v, %v) = %d, %v, want %d, %v", c.x, c.y, n, ok, c.n, c.ok)
		}
	}
}
