package quot_test

import (
	"fmt"
	"slices"
	"testing"

	"crucible/api"
	"crucible/nat"
	"crucible/quot"
)

// P2.1

func TestDiv(t *testing.T) {
	for _, c := range []struct{ a, b, q, r string }{
		{"17", "5", "3", "2"}, {"5", "17", "0", "5"}, {"0", "3", "0", "0"}, {"5", "5", "1", "0"}, {"4", "5", "0", "4"}, {"6", "5", "1", "1"}, {"7", "1", "7", "0"},
		{"79228162514264337593543950336", "4294967297", "18446744069414584320", "4294967296"},
		{"18446744073709551615", "18446744073709551616", "0", "18446744073709551615"},
		{"18446744073709551616", "18446744073709551616", "1", "0"},
		{"18446744073709551617", "18446744073709551616", "1", "1"},
		{"340282366920938463463374607431768211455", "18446744073709551615", "18446744073709551617", "0"},
		{"340282366920938463463374607431768211454", "18446744073709551615", "18446744073709551616", "18446744073709551614"},
		{"1000000000000000000000000000000", "1000000000000001", "999999999999999", "1"},
		{"123456789012345678901234567890123456789", "987654321098765432109", "124999998860937500", "14172067901781269289"},
	} {
		q, r, ok := quot.Div(read(c.a), read(c.b))
		wantList(t, fmt.Sprintf("Div(%s, %s)", c.a, c.b), q, read(c.q))
		wantList(t, fmt.Sprintf("what Div(%s, %s) leaves", c.a, c.b), r, read(c.r))
		if !ok {
			t.Errorf("Div(%s, %s) says false", c.a, c.b)
		}
	}
}

func TestDivLists(t *testing.T) {
	for _, c := range []struct{ a, b, q, r list }{
		{list{4, 0, 0}, list{2, 0}, list{2}, nil}, {list{0, 0}, list{3, 0, 0}, nil, nil}, {list{5, 0, 0, 0}, list{17, 0}, nil, list{5}},
		{list{3, 0, 1, 0}, list{1, 0}, list{3, 0, 1}, nil}, {list{3, 4, 5, 0, 0}, list{0, 1, 0}, list{4, 5}, list{3}}, {list{7, 8, 0}, list{0, 0, 1, 0}, nil, list{7, 8}},
	} {
		q, r, ok := quot.Div(c.a, c.b)
		wantList(t, fmt.Sprintf("Div(%x, %x)", c.a, c.b), q, c.q)
		wantList(t, fmt.Sprintf("what Div(%x, %x) leaves", c.a, c.b), r, c.r)
		if !ok {
			t.Errorf("Div(%x, %x) says false", c.a, c.b)
		}
	}
}

func TestDivByNought(t *testing.T) {
	for _, a := range samples() {
		for _, b := range []list{nil, {}, {0}, {0, 0, 0}} {
			q, r, ok := quot.Div(a, b)
			wantNone(t, fmt.Sprintf("Div(%x, %x)", a, b), q, ok)
			wantNone(t, fmt.Sprintf("what Div(%x, %x) leaves", a, b), r, ok)
		}
	}
}

// Of each divisor the highest limbs make the guess too great in another way; q is right.
func TestDivGuess(t *testing.T) {
	for _, c := range []struct {
		why  string
		a, b list
		q    uint32
	}{
		{"right at once", list{0, 0, 0, high + 1}, list{3, 1, top - 1}, high + 2},
		{"a limb and more, right once it is cut to a limb", list{high - 1, 3, high}, list{high - 1, high}, top},
		{"a limb and more, more than a limb over", list{high - 1, high, top - 1}, list{top, top - 1}, top},
		{"shown once by the second limb", list{high, high, 0, high - 1}, list{1, high - 1, high}, top - 2},
		{"shown once, then more than a limb over", list{high + 1, 0, high, high + 1}, list{top - 1, high - 1, top}, high + 1},
		{"a limb and more, shown once", list{high, high - 1, 0, high + 1}, list{top, top - 1, high + 1}, top - 1},
		{"shown twice", list{high - 1, high - 1, high - 1, high}, list{1, top, high + 1}, top - 2},
		{"shown twice, in four limbs", list{2, 2, top, top, high}, list{0, 0, top - 1, high + 2}, top - 3},
		{"found by the third limb alone", list{high + 1, 2, high, high - 1}, list{top, 0, top}, high - 1},
		{"found by the third limb alone, right is 0", list{2, 3, high, 0}, list{top, 3, high}, 0},
		{"a limb and more, found by the third limb alone", list{high - 1, 3, 0, high + 1}, list{top, high + 1, high + 1}, top - 1},
		{"more than a limb over, found by the third limb alone", list{top - 1, high, top, high - 1}, list{top, top, top}, high - 1},
		{"shown once, then found by the third limb", list{0, 2, high, high - 1}, list{top, high + 1, high}, top - 2},
		{"shown once, then found by the fourth limb", list{high, 0, 3, high, high - 1}, list{2, top, high + 1, high}, top - 2},
	} {
		q, _, _ := quot.Div(c.a, c.b)
		wantList(t, fmt.Sprintf("%s: Div(%x, %x)", c.why, c.a, c.b), q, nat.Norm(list{c.q}))
		divides(t, c.a, c.b)
		// The same at two places, and with the divisor's top bit not set, so that both are raised first.
		divides(t, slices.Concat(list{5, 6}, c.a), c.b)
		divides(t, slices.Concat(c.a, c.b), c.b)
		for n := range 32 {
			a, _, _ := nat.Shr(c.a, n)
			b, _, _ := nat.Shr(c.b, n)
			divides(t, a, b)
		}
	}
}

// divides holds Div to the one pair that there is.
func divides(t *testing.T, a, b list) {
	t.Helper()
	q, r, ok := quot.Div(a, b)
	if !ok || nat.Cmp(r, b) >= 0 || nat.Cmp(nat.Add(nat.Mul(q, b), r), a) != 0 {
		t.Errorf("Div(%x, %x) = %x, %x, %v", a, b, q, r, ok)
	}
	wantList(t, "the quotient's list", q, nat.Norm(q))
	wantList(t, "the list of what is left", r, nat.Norm(r))
}

func TestDivPair(t *testing.T) {
	all := samples()
	for _, a := range all {
		for _, b := range all {
			if nat.Len(b) > 0 {
				divides(t, a, b)
				product := nat.Mul(a, b)
				divides(t, product, b)
				divides(t, plus(product, 1), b)
				if less, ok := nat.Sub(product, list{1}); ok {
					divides(t, less, b)
				}
			}
		}
	}
	r := rule{11}
	for i := range 3000 {
		if b := r.list(1 + i%13); nat.Len(b) > 0 {
			divides(t, r.list(i%29), b)
		}
	}
}

func TestDivLong(t *testing.T) {
	r := rule{13}
	for _, sizes := range [][2]int{{300, 1}, {300, 2}, {300, 150}, {300, 299}, {300, 300}, {300, 301}, {1000, 400}, {3000, 1000}} {
		a, b := append(r.list(sizes[0]-1), 9), append(r.list(sizes[1]-1), 3)
		divides(t, a, b)
		q, left, _ := quot.Div(plus(nat.Mul(a, b), 2), b)
		if sizes[1] > 1 {
			same(t, "a times b and 2 more, divided by b", q, a)
			same(t, "what that leaves", left, list{2})
		}
	}
}

// Division has no limit: both numbers may have more limbs than nat.Shl makes.
func TestDivBeyondMaxLimbs(t *testing.T) {
	a := make(list, api.MaxLimbs+3)
	a[0], a[len(a)-1] = 7, top
	divides(t, a, list{3, 5})
	divides(t, a, list{3})
	b := slices.Clone(a)
	b[0], b[len(b)-1] = 9, 1
	q, r, ok := quot.Div(a, b)
	left, _ := nat.Sub(a, nat.Mul(b, list{top - 1}))
	if !ok || !slices.Equal(q, list{top - 1}) || !slices.Equal(r, left) {
		t.Errorf("Div of two numbers with more than MaxLimbs limbs: %x, %d limbs left, %v", q, len(r), ok)
	}
}

// P2.2

func TestGcd(t *testing.T) {
	for _, c := range [][3]string{
		{"12", "18", "6"}, {"18", "12", "6"}, {"0", "9", "9"}, {"9", "0", "9"}, {"0", "0", "0"}, {"17", "5", "1"}, {"7", "7", "7"}, {"1", "1000", "1"}, {"1000", "250", "250"},
		{"1000000000000000000000", "123456789000000000", "1000000000"}, {"340282366920938463463374607431768211455", "18446744073709551615", "18446744073709551615"},
		{"18446744073709551616", "79228162514264337593543950336", "18446744073709551616"}, {"18446744073709551617", "18446744073709551616", "1"},
	} {
		wantList(t, fmt.Sprintf("Gcd(%s, %s)", c[0], c[1]), quot.Gcd(read(c[0]), read(c[1])), read(c[2]))
	}
	wantList(t, "Gcd(c 0 0, 12 0)", quot.Gcd(list{12, 0, 0}, list{18, 0}), list{6})
	wantList(t, "Gcd(0 0, 9 0)", quot.Gcd(list{0, 0}, list{9, 0}), list{9})
	wantList(t, "Gcd(9 0, 0)", quot.Gcd(list{9, 0}, list{0}), list{9})
	wantList(t, "Gcd(0 0, 0)", quot.Gcd(list{0, 0}, list{0}), nil)
}

func TestGcdOfSmall(t *testing.T) {
	for a := range uint32(60) {
		for b := range uint32(60) {
			want := max(a, b)
			for want > 1 && (a%want != 0 || b%want != 0) {
				want--
			}
			wantList(t, fmt.Sprintf("Gcd(%d, %d)", a, b), quot.Gcd(list{a}, list{b}), nat.Norm(list{want}))
		}
	}
}

// Neighbours have no divisor in common but 1, nor have two neighbours in Fibonacci's row, where every quotient is 1.
func TestGcdOfKnown(t *testing.T) {
	low, next := list{1}, list{1}
	for range 500 {
		low, next = next, nat.Add(low, next)
	}
	r := rule{17}
	for i := range 40 {
		g := append(r.list(i), 1+r.next())
		a := append(r.list(40-i), 1)
		wantList(t, "Gcd of neighbours", quot.Gcd(nat.Mul(a, g), nat.Mul(plus(a, 1), g)), g)
		wantList(t, "Gcd in Fibonacci's row", quot.Gcd(nat.Mul(next, g), nat.Mul(low, g)), g)
		wantList(t, "Gcd of a multiple", quot.Gcd(g, nat.Mul(a, g)), g)
		wantList(t, "Gcd of itself", quot.Gcd(g, g), g)
	}
}
