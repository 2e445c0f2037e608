package ieee_test

import (
	"math"
	"slices"
	"strconv"
	"testing"

	"crucible/api"
	"crucible/ieee"
	"crucible/nat"
	"crucible/whole"
)

// wantTo is P4.5 in its own words, the nearest pattern sought by the reference.
func wantTo[B, A ieee.Bits](t *testing.T, x A) {
	t.Helper()
	a, b := kindOf[A](), kindOf[B]()
	neg, _, fraction := a.split(uint64(x))
	var want uint64
	same := true
	switch {
	case a.isFinite(uint64(x)):
		size := b.nearest(a.amountOf(uint64(x)))
		same = size < b.infinite() && b.amountOf(size).cmp(a.amountOf(uint64(x))) == 0
		want = b.signed(neg, size)
	case fraction == 0:
		want = b.signed(neg, b.infinite())
	default:
		want = b.infinite() + 1<<(b.fraction-1)
	}
	if got, ok := ieee.To[B](x); uint64(got) != want || ok != same {
		t.Errorf("To %d bits (%#x) = %#x, %v, want %#x, %v", 1+b.exponent+b.fraction, x, got, ok, want, same)
	}
}

// nearby are patterns of the width of A next to those of the width of B, and halfway between them, so far as A has them.
func nearby[A, B ieee.Bits]() []A {
	b := kindOf[B]()
	var sizes []uint64
	for _, size := range finite(few[B]()) {
		for _, n := range []amount{b.amountOf(size), b.middle(size)} {
			x := kindOf[A]().nearest(n)
			sizes = append(sizes, max(x, 1)-1, x, x+1)
		}
	}
	return signs[A](sizes)
}

func toAll[A ieee.Bits](t *testing.T) {
	for _, x := range slices.Concat(many[A](), nearby[A, uint16](), nearby[A, uint32](), nearby[A, uint64]()) {
		wantTo[uint16](t, x)
		wantTo[uint32](t, x)
		wantTo[uint64](t, x)
	}
	for _, x := range few[A]() {
		wantTo[own16](t, x)
		wantTo[own32](t, x)
		wantTo[own64](t, x)
	}
}

// P4.1, P4.5.
func TestTo(t *testing.T) {
	widths(t, toAll[uint16], toAll[uint32], toAll[uint64], toAll[own16], toAll[own32], toAll[own64])
}

func TestToKnown(t *testing.T) {
	for _, c := range []struct {
		x    uint32
		want uint16
		ok   bool
	}{
		{0x3fc00000, 0x3e00, true}, {0x3f800001, 0x3c00, false}, {0x477fe000, 0x7bff, true}, {0x477fefff, 0x7bff, false}, {0x477ff000, 0x7c00, false}, {0xc77ff000, 0xfc00, false}, {0xff800000, 0xfc00, true}, {0x7f800000, 0x7c00, true},
		{0xffc12345, 0x7e00, true}, {0x7f800001, 0x7e00, true}, {0x7fffffff, 0x7e00, true}, {0x80000000, 0x8000, true}, {0, 0, true}, {0x33800000, 1, true}, {0x33000000, 0, false}, {0x33000001, 1, false}, {0xb3000000, 0x8000, false}, {1, 0, false}, {0x80000001, 0x8000, false},
	} {
		if got, ok := ieee.To[uint16](c.x); got != c.want || ok != c.ok {
			t.Errorf("To 16 bits (%#x) = %#x, %v, want %#x, %v", c.x, got, ok, c.want, c.ok)
		}
	}
	for _, c := range []struct {
		x    own16
		want uint64
	}{{1, 0x3e70000000000000}, {0x7c01, 0x7ff8000000000000}, {0xffff, 0x7ff8000000000000}, {0x8000, 1 << 63}, {0xfc00, 0xfff0000000000000}, {0x3c00, 0x3ff0000000000000}} {
		if got, ok := ieee.To[own64](c.x); uint64(got) != c.want || !ok {
			t.Errorf("To 64 bits (%#x) = %#x, %v, want %#x", c.x, got, ok, c.want)
		}
	}
	for _, c := range [][2]uint64{{0x7ff0000000000001, 0x7fc00000}, {0xfff8000000000000, 0x7fc00000}} {
		if got, ok := ieee.To[uint32](c[0]); uint64(got) != c[1] || !ok {
			t.Errorf("To 32 bits (%#x) = %#x, %v, want %#x", c[0], got, ok, c[1])
		}
	}
	if got, ok := ieee.To[uint64](uint64(0xfff0000000000001)); got != 0x7ff8000000000000 || !ok {
		t.Errorf("To its own width, of no number: %#x, %v", got, ok)
	}
}

func TestToAsTheLanguage(t *testing.T) {
	r := rule{31}
	for range 20000 {
		x := r.next()
		if r.below(2) == 0 {
			x = x%(uint64(300)<<52) + uint64(870)<<52
		}
		f := math.Float64frombits(x)
		if f != f {
			continue
		}
		got, ok := ieee.To[uint32](x)
		if want := math.Float32bits(float32(f)); got != want || ok != (float64(float32(f)) == f) {
			t.Errorf("To 32 bits (%#x) = %#x, %v, want %#x", x, got, ok, want)
		}
		if back, ok := ieee.To[uint64](got); back != math.Float64bits(float64(float32(f))) || !ok {
			t.Errorf("To 64 bits (%#x) = %#x, %v", got, back, ok)
		}
	}
}

func ints[T ieee.Bits](t *testing.T) {
	k := kindOf[T]()
	for _, x := range many[T]() {
		neg, _, _ := k.split(uint64(x))
		var want api.Int
		ok := false
		if k.isFinite(uint64(x)) {
			// Told in whole steps or in ones, whichever is finer, and back: nothing is left over of a whole number.
			a := k.amountOf(uint64(x))
			if a.e > 0 {
				a = a.finer(a.e)
			}
			q, more, _ := nat.Shr(a.m, -a.e)
			if !more {
				ok = true
				want = api.Int{Neg: neg && len(q) > 0, Mag: q}
			}
		}
		got, is := ieee.Int(x)
		if is != ok || got.Neg != want.Neg || !slices.Equal(got.Mag, want.Mag) {
			t.Errorf("Int(%#x) = %v, %v, want %v, %v", x, got, is, want, ok)
		}
		if !ok {
			continue
		}
		// From is the way back, but for -0.
		if neg && len(want.Mag) == 0 {
			x = 0
		}
		if y, same := ieee.From[T](got); y != x || !same {
			t.Errorf("From(%v) = %#x, %v, want %#x", got, y, same, x)
		}
	}
}

// P4.1, P4.8.
func TestInt(t *testing.T) {
	widths(t, ints[uint16], ints[uint32], ints[uint64], ints[own16], ints[own32], ints[own64])
}

// wantFrom asks with each sign, and with noughts at the end of the list.
func wantFrom[T ieee.Bits](t *testing.T, m list) {
	t.Helper()
	k := kindOf[T]()
	size := k.nearest(amount{m, 0})
	same := size < k.infinite() && k.amountOf(size).cmp(amount{m, 0}) == 0
	for _, neg := range []bool{false, true} {
		want := k.signed(neg && nat.Len(m) > 0, size)
		for _, mag := range []list{m, append(slices.Clone(m), 0, 0)} {
			if got, ok := ieee.From[T](api.Int{Neg: neg, Mag: mag}); uint64(got) != want || ok != same {
				t.Errorf("From(%v, %v) = %#x, %v, want %#x, %v", neg, mag, got, ok, want, same)
			}
		}
	}
}

func froms[T ieee.Bits](t *testing.T) {
	k := kindOf[T]()
	for n := range uint64(70000) {
		if k.exponent == 5 || n%50 == 0 {
			wantFrom[T](t, nat.From(n))
		}
	}
	r := rule{41}
	for digits := range 1100 {
		m := r.list(digits)
		wantFrom[T](t, m)
		if digits > 0 {
			power, _ := nat.Shl(list{1}, digits)
			ones, _ := nat.Sub(power, list{1})
			wantFrom[T](t, power)
			wantFrom[T](t, ones)
			wantFrom[T](t, nat.Add(power, list{1}))
		}
	}
	// At the step from the greatest to the infinite one.
	for _, a := range []amount{k.amountOf(k.infinite() - 1), k.middle(k.infinite() - 1), k.amountOf(k.infinite())} {
		m := a.finer(a.e).m
		less, _ := nat.Sub(m, list{1})
		wantFrom[T](t, m)
		wantFrom[T](t, less)
		wantFrom[T](t, nat.Add(m, list{1}))
	}
}

// P4.1, P4.8.
func TestFrom(t *testing.T) {
	widths(t, froms[uint16], froms[uint32], froms[uint64], froms[own16], froms[own32], froms[own64])
}

func TestFromLong(t *testing.T) {
	m := make(list, api.MaxLimbs+9)
	m[len(m)-1] = 1
	if x, ok := ieee.From[uint64](api.Int{Neg: true, Mag: m}); x != 0xfff0000000000000 || ok {
		t.Errorf("From of a long number below 0 = %#x, %v", x, ok)
	}
	m[len(m)-1] = 0
	if x, ok := ieee.From[own16](api.Int{Neg: true, Mag: m}); x != 0 || !ok {
		t.Errorf("From of many noughts = %#x, %v", x, ok)
	}
	m[0] = 7
	if x, ok := ieee.From[own32](api.Int{Neg: true, Mag: m}); x != 0xc0e00000 || !ok {
		t.Errorf("From of -7 with many noughts behind it = %#x, %v", x, ok)
	}
}

func TestWholeKnown(t *testing.T) {
	for _, c := range []struct {
		x    uint16
		want string
		ok   bool
	}{{0x4900, "10", true}, {0xc900, "-10", true}, {0x3e00, "0", false}, {0x3800, "0", false}, {1, "0", false}, {0x8000, "0", true}, {0, "0", true}, {0x7c00, "0", false}, {0xfc00, "0", false}, {0x7e00, "0", false}, {0x7bff, "65504", true}, {0x67ff, "2047", true}, {0x63ff, "0", false}} {
		if n, ok := ieee.Int(c.x); whole.Show(n) != c.want || ok != c.ok {
			t.Errorf("Int(%#x) = %v, %v, want %s", c.x, n, ok, c.want)
		}
	}
	for _, c := range []struct {
		n    string
		want own32
		ok   bool
	}{{"16777217", 0x4b800000, false}, {"16777219", 0x4b800002, false}, {"-3", 0xc0400000, true}, {"0", 0, true}, {"340282356779733661637539395458142568447", 0x7f7fffff, false}, {"340282356779733661637539395458142568448", 0x7f800000, false}, {"-340282346638528859811704183484516925440", 0xff7fffff, true}} {
		n, _ := whole.Read(c.n)
		if x, ok := ieee.From[own32](n); x != c.want || ok != c.ok {
			t.Errorf("From(%s) = %#x, %v, want %#x", c.n, x, ok, c.want)
		}
	}
}

// The language's own numbers.
func TestWholeAsTheLanguage(t *testing.T) {
	r := rule{51}
	for range 5000 {
		n := int64(r.next()) >> r.below(63)
		x, ok := ieee.From[uint64](whole.From(n))
		if want := float64(n); x != math.Float64bits(want) || ok != (want < 1<<63 && int64(want) == n) {
			t.Errorf("From(%d) = %#x, %v", n, x, ok)
		}
		// Of 1075 and more above the 52 digits of the fraction there is none behind the point.
		great := r.next()%(1<<52) + uint64(1075+r.below(2047-1075))<<52
		if got, ok := ieee.Int(great); !ok || whole.Show(got) != strconv.FormatFloat(math.Float64frombits(great), 'f', 0, 64) {
			t.Errorf("Int(%#x) = %v, %v", great, got, ok)
		}
	}
}
