package ieee_test

import (
	"math"
	"testing"

	"crucible/api"
	"crucible/ieee"
	"crucible/nat"
)

func (k kind) classOf(x uint64) api.Class {
	_, exponent, fraction := k.split(x)
	ones := uint64(1)<<k.exponent - 1
	switch {
	case exponent == ones && fraction != 0:
		return api.ClassNaN
	case exponent == ones:
		return api.ClassInf
	case exponent != 0:
		return api.ClassNormal
	case fraction != 0:
		return api.ClassSub
	}
	return api.ClassZero
}

func classes[T ieee.Bits](t *testing.T) {
	k := kindOf[T]()
	for _, x := range many[T]() {
		if got, want := ieee.Class(x), k.classOf(uint64(x)); got != want {
			t.Errorf("Class(%#x) = %d, want %d", x, got, want)
		}
	}
}

// P4.1, P4.2.
func TestClass(t *testing.T) {
	widths(t, classes[uint16], classes[uint32], classes[uint64], classes[own16], classes[own32], classes[own64])
}

// P4.1: one number is another class at each width.
func TestClassByWidth(t *testing.T) {
	for _, c := range []struct {
		x    uint64
		want [3]api.Class
	}{
		{0x7c00, [3]api.Class{api.ClassInf, api.ClassSub, api.ClassSub}},
		{0xfe01, [3]api.Class{api.ClassNaN, api.ClassSub, api.ClassSub}},
		{0x8000, [3]api.Class{api.ClassZero, api.ClassSub, api.ClassSub}},
		{0x7f800000, [3]api.Class{api.ClassZero, api.ClassInf, api.ClassSub}},
		{0xffc12345, [3]api.Class{api.ClassNormal, api.ClassNaN, api.ClassSub}},
		{0x7ff0000000000000, [3]api.Class{api.ClassZero, api.ClassZero, api.ClassInf}},
		{0xfff8000000000000, [3]api.Class{api.ClassZero, api.ClassZero, api.ClassNaN}},
	} {
		got := [3]api.Class{ieee.Class(uint16(c.x)), ieee.Class(uint32(c.x)), ieee.Class(c.x)}
		own := [3]api.Class{ieee.Class(own16(c.x)), ieee.Class(own32(c.x)), ieee.Class(own64(c.x))}
		if got != c.want || own != c.want {
			t.Errorf("the classes of %#x are %v, %v, want %v", c.x, got, own, c.want)
		}
	}
}

func parts[T ieee.Bits](t *testing.T) {
	k := kindOf[T]()
	for _, x := range many[T]() {
		neg, m, e, ok := ieee.Parts(x)
		below, _, _ := k.split(uint64(x))
		switch {
		case !k.isFinite(uint64(x)):
			if neg || m != 0 || e != 0 || ok {
				t.Errorf("Parts(%#x) = %v, %d, %d, %v of what is not finite", x, neg, m, e, ok)
			}
		case !ok || neg != below:
			t.Errorf("Parts(%#x) = %v, .., %v", x, neg, ok)
		case ieee.Class(x) == api.ClassZero:
			if m != 0 || e != 0 {
				t.Errorf("Parts(%#x) = .., %d, %d, .. of 0", x, m, e)
			}
		case m%2 == 0 || (amount{nat.From(m), e}).cmp(k.amountOf(uint64(x))) != 0:
			t.Errorf("Parts(%#x) = .., %d, %d, ..", x, m, e)
		}
	}
}

// P4.3.
func TestParts(t *testing.T) {
	widths(t, parts[uint16], parts[uint32], parts[uint64], parts[own16], parts[own32], parts[own64])
}

func TestPartsKnown(t *testing.T) {
	for _, c := range []struct {
		x   uint16
		neg bool
		m   uint64
		e   int
	}{{0x3c00, false, 1, 0}, {0xc200, true, 3, 0}, {1, false, 1, -24}, {0x8001, true, 1, -24}, {0x3ff, false, 1023, -24}, {0x400, false, 1, -14}, {0x401, false, 1025, -24}, {0x7bff, false, 2047, 5}, {0, false, 0, 0}, {0x8000, true, 0, 0}} {
		if neg, m, e, ok := ieee.Parts(c.x); neg != c.neg || m != c.m || e != c.e || !ok {
			t.Errorf("Parts(%#x) = %v, %d, %d, %v", c.x, neg, m, e, ok)
		}
	}
	if neg, m, e, ok := ieee.Parts(uint32(0xff7fffff)); !neg || m != 16777215 || e != 104 || !ok {
		t.Errorf("Parts of the greatest of 32 bits, below 0: %v, %d, %d, %v", neg, m, e, ok)
	}
	if neg, m, e, ok := ieee.Parts(uint64(0x7fefffffffffffff)); neg || m != 9007199254740991 || e != 971 || !ok {
		t.Errorf("Parts of the greatest of 64 bits: %v, %d, %d, %v", neg, m, e, ok)
	}
}

// order is that of the numbers that two patterns are, by the amounts and the signs.
func (k kind) order(x, y uint64) int {
	a, b := k.amountOf(x), k.amountOf(y)
	negX, _, _ := k.split(x)
	negY, _, _ := k.split(y)
	nought := amount{}
	switch {
	case a.cmp(nought) == 0 && b.cmp(nought) == 0:
		return 0
	case negX && negY:
		return b.cmp(a)
	case negX:
		return -1
	case negY:
		return 1
	}
	return a.cmp(b)
}

// total is the order of patterns in the words of P4.6.
func (k kind) total(x, y uint64) int {
	negX, negY := x >= k.sign(), y >= k.sign()
	switch {
	case x == y:
		return 0
	case negX && negY:
		return k.total(y-k.sign(), x-k.sign())
	case negX || !negY && x < y:
		return -1
	}
	return 1
}

func orders[T ieee.Bits](t *testing.T) {
	k := kindOf[T]()
	xs := few[T]()
	r := rule{9}
	for range 40 {
		x := T(r.next())
		xs = append(xs, x, x+1, x^T(k.sign()))
	}
	for _, x := range xs {
		for _, y := range xs {
			want, ok := 0, k.isNumber(uint64(x)) && k.isNumber(uint64(y))
			if ok {
				want = k.order(uint64(x), uint64(y))
			}
			if got, is := ieee.Cmp(x, y); got != want || is != ok {
				t.Errorf("Cmp(%#x, %#x) = %d, %v, want %d, %v", x, y, got, is, want, ok)
			}
			if got, want := ieee.Total(x, y), k.total(uint64(x), uint64(y)); got != want {
				t.Errorf("Total(%#x, %#x) = %d, want %d", x, y, got, want)
			}
		}
	}
}

// P4.6.
func TestOrder(t *testing.T) {
	widths(t, orders[uint16], orders[uint32], orders[uint64], orders[own16], orders[own32], orders[own64])
}

func TestOrderKnown(t *testing.T) {
	for _, c := range []struct {
		x, y  uint16
		n     int
		ok    bool
		total int
	}{
		{0x8000, 0, 0, true, -1}, {0, 0x8000, 0, true, 1}, {0x8000, 0x8000, 0, true, 0}, {0x8001, 0x8000, -1, true, -1}, {0x8000, 1, -1, true, -1}, {0, 0x8001, 1, true, 1},
		{0xfc00, 1, -1, true, -1}, {0xfc00, 0xfbff, -1, true, -1}, {0xfc00, 0x7c00, -1, true, -1}, {0x7c00, 0x7bff, 1, true, 1}, {0x7c00, 0x7c00, 0, true, 0}, {0xfc00, 0xfc00, 0, true, 0},
		{0x7e00, 0x7e00, 0, false, 0}, {0x7e00, 0x7e01, 0, false, -1}, {0xfe00, 0xfe01, 0, false, 1}, {0xfe00, 0xfc00, 0, false, -1}, {0x7c01, 0x7c00, 0, false, 1}, {0, 0xffff, 0, false, 1}, {0x7fff, 0xffff, 0, false, 1},
		{0xc000, 0xc001, 1, true, 1}, {0x4000, 0x4001, -1, true, -1}, {0x3ff, 0x400, -1, true, -1}, {0x83ff, 0x8400, 1, true, 1}, {0xbc00, 0x3c00, -1, true, -1},
	} {
		if n, ok := ieee.Cmp(c.x, c.y); n != c.n || ok != c.ok {
			t.Errorf("Cmp(%#x, %#x) = %d, %v", c.x, c.y, n, ok)
		}
		if n := ieee.Total(c.x, c.y); n != c.total {
			t.Errorf("Total(%#x, %#x) = %d", c.x, c.y, n)
		}
	}
}

// The language's own order of floats.
func TestOrderAsTheLanguage(t *testing.T) {
	r := rule{11}
	for range 20000 {
		x, y := r.next(), r.next()
		if r.below(3) == 0 {
			y = x ^ uint64(r.below(4))
		}
		a, b := math.Float64frombits(x), math.Float64frombits(y)
		n, ok := ieee.Cmp(x, y)
		if ok != (a == a && b == b) || (n < 0) != (a < b) || (n > 0) != (a > b) {
			t.Errorf("Cmp(%#x, %#x) = %d, %v", x, y, n, ok)
		}
	}
}

func nexts[T ieee.Bits](t *testing.T) {
	k := kindOf[T]()
	for _, x := range many[T]() {
		size := uint64(x) % k.sign()
		neg := uint64(x) != size
		want := uint64(x) + 1
		switch {
		case size > k.infinite() || uint64(x) == k.infinite():
			want = uint64(x)
		case size == 0:
			want = 1
		case neg && size == k.infinite():
			want = k.infinite() - 1 + k.sign()
		case neg:
			want = uint64(x) - 1
		}
		if got := ieee.Next(x); uint64(got) != want {
			t.Errorf("Next(%#x) = %#x, want %#x", x, got, want)
		}
	}
}

// P4.7.
func TestNext(t *testing.T) {
	widths(t, nexts[uint16], nexts[uint32], nexts[uint64], nexts[own16], nexts[own32], nexts[own64])
}

func TestNextKnown(t *testing.T) {
	for _, c := range [][2]uint16{{0, 1}, {0x8000, 1}, {0x8001, 0x8000}, {0x8002, 0x8001}, {1, 2}, {0x3ff, 0x400}, {0x8400, 0x83ff}, {0x7bff, 0x7c00}, {0x7c00, 0x7c00}, {0xfc00, 0xfbff}, {0xfbff, 0xfbfe}, {0x7e00, 0x7e00}, {0x7c01, 0x7c01}, {0xfc01, 0xfc01}, {0xffff, 0xffff}} {
		if y := ieee.Next(c[0]); y != c[1] {
			t.Errorf("Next(%#x) = %#x, want %#x", c[0], y, c[1])
		}
	}
	for _, c := range [][2]uint32{{0, 1}, {0x80000000, 1}, {0x7f7fffff, 0x7f800000}, {0x7f800000, 0x7f800000}, {0xff800000, 0xff7fffff}, {0x80000001, 0x80000000}, {0xffffffff, 0xffffffff}} {
		if y := ieee.Next(c[0]); y != c[1] {
			t.Errorf("Next(%#x) = %#x, want %#x", c[0], y, c[1])
		}
	}
	for _, c := range [][2]own64{{0, 1}, {1 << 63, 1}, {0x7fefffffffffffff, 0x7ff0000000000000}, {0x7ff0000000000000, 0x7ff0000000000000}, {0xfff0000000000000, 0xffefffffffffffff}, {1<<63 + 1, 1 << 63}, {1<<64 - 1, 1<<64 - 1}} {
		if y := ieee.Next(c[0]); y != c[1] {
			t.Errorf("Next(%#x) = %#x, want %#x", c[0], y, c[1])
		}
	}
}
