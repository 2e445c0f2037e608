package shortest_test

import (
	"strings"
	"testing"

	"crucible/api"
	"crucible/ieee"
	"crucible/nat"
	"crucible/quot"
	"crucible/shortest"
)

// told is what Digits tells of a finite pattern.
func told[T ieee.Bits](t *testing.T, x T) api.Digits {
	t.Helper()
	d, ok := shortest.Digits(x)
	if !ok {
		t.Fatalf("Digits(%#x): false", x)
	}
	return d
}

// sample are all sizes of 16 bits; of the others some, each with the next one. They rise.
func sample[T ieee.Bits]() []uint64 {
	k := kindOf[T]()
	var out []uint64
	if k.exponent == 5 {
		for x := uint64(1); x < k.infinite(); x++ {
			out = append(out, x)
		}
		return out
	}
	for _, x := range some[T]() {
		if len(out) == 0 || out[len(out)-1] < x {
			out = append(out, x)
		}
		if x+1 < k.infinite() {
			out = append(out, x+1)
		}
	}
	return out
}

func readBack[T ieee.Bits](t *testing.T) {
	k := kindOf[T]()
	sizes := some[T]()
	for i, x := range sizes {
		d := told(t, T(x))
		number := decimal(d.Text, d.Point)
		if !k.isRead(number, x) {
			t.Errorf("%v, told of %#x, is not read as it", d, x)
		}
		// To seek it among all patterns takes long.
		if i%20 == 0 && k.nearest(number) != x {
			t.Errorf("%v, told of %#x, is read as %#x", d, x, k.nearest(number))
		}
	}
}

// P6.2: what is told is read as x.
func TestReadBack(t *testing.T) {
	widths(t, readBack[uint16], readBack[uint32], readBack[uint64], readBack[own16], readBack[own32], readBack[own64])
}

func formed[T ieee.Bits](t *testing.T) {
	k := kindOf[T]()
	longest := 0
	for _, x := range sample[T]() {
		d := told(t, T(x))
		if d.Text == "" || len(d.Text) > k.digits || strings.Trim(d.Text, "0123456789") != "" {
			t.Errorf("Digits(%#x) = %v: want 1 to %d digits", x, d, k.digits)
		}
		if strings.Trim(d.Text, "0") != d.Text {
			t.Errorf("Digits(%#x) = %v: the first or the last one is 0", x, d)
		}
		minus := told(t, T(x+k.sign()))
		if d.Neg || !minus.Neg || minus.Text != d.Text || minus.Point != d.Point {
			t.Errorf("Digits(%#x) = %v, with the other sign %v", x, d, minus)
		}
		longest = max(longest, len(d.Text))
	}
	if longest != k.digits {
		t.Errorf("at most %d digits are told: the sample does not reach %d", longest, k.digits)
	}
}

// P6.2: how many digits there are, and that none of the outer ones is 0; the sign changes Neg alone.
func TestFormed(t *testing.T) {
	widths(t, formed[uint16], formed[uint32], formed[uint64], formed[own16], formed[own32], formed[own64])
}

func widened[A, B ieee.Bits](t *testing.T) {
	for _, size := range sample[A]() {
		x := A(size)
		y, same := ieee.To[B](x)
		if !same {
			t.Fatalf("%#x is another number in a wider width", x)
		}
		if a, b := told(t, x), told(t, y); len(a.Text) > len(b.Text) {
			t.Errorf("Digits(%#x) = %v, in a wider width %v", x, a, b)
		}
	}
}

// P6.2: a wider width has at least as many digits.
func TestWidened(t *testing.T) {
	widened[uint16, uint32](t)
	widened[uint16, uint64](t)
	widened[uint32, uint64](t)
	widened[own16, own64](t)
	widened[own32, own64](t)
}

func rising[T ieee.Bits](t *testing.T) {
	last := uint64(0)
	var before api.Digits
	for _, x := range sample[T]() {
		d := told(t, T(x))
		if last > 0 && !below(before, d) {
			t.Errorf("Digits(%#x) = %v, of the greater %#x it is %v", last, before, x, d)
		}
		last, before = x, d
	}
}

// P6.2: the greater of two patterns has the greater decimal number.
func TestRising(t *testing.T) {
	widths(t, rising[uint16], rising[uint32], rising[uint64], rising[own16], rising[own32], rising[own64])
}

// neighbours are the decimal numbers with n digits next to the number, below and above it.
func (a amount) neighbours(n, point int) []amount {
	steps := a.cut(point - n)
	return []amount{{steps, 0, point - n}, {nat.Add(steps, list{1}), 0, point - n}}
}

func fewest[T ieee.Bits](t *testing.T) {
	k := kindOf[T]()
	for _, x := range some[T]() {
		d := told(t, T(x))
		number := k.amountOf(x)
		point := number.pointOf()
		// Those that are read as x lie side by side about it, so that with one digit fewer it is enough to ask the two next to it.
		for n := 1; n < len(d.Text); n++ {
			for _, other := range number.neighbours(n, point) {
				if k.isRead(other, x) {
					t.Errorf("Digits(%#x) = %v, but %s with the Point %d is read as it too", x, d, quot.Digits(other.m), point)
				}
			}
		}
		for _, other := range number.neighbours(len(d.Text), point) {
			if k.isRead(other, x) && closer(other, decimal(d.Text, d.Point), number) < 0 {
				t.Errorf("Digits(%#x) = %v, but %s with the Point %d is closer", x, d, quot.Digits(other.m), point)
			}
		}
	}
}

// P6.2: none with fewer digits is read as x, and none with as many lies closer.
func TestFewest(t *testing.T) {
	widths(t, fewest[uint16], fewest[uint32], fewest[uint64], fewest[own16], fewest[own32], fewest[own64])
}
