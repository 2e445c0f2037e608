package quot_test

import (
	"cmp"
	"slices"
	"testing"

	"crucible/nat"
	"crucible/quot"
)

// P2.6

func TestThereAndBack(t *testing.T) {
	r := rule{29}
	for _, a := range append(samples(), r.list(61), r.list(500), r.list(9000)) {
		back, ok := quot.Read(quot.Digits(a))
		same(t, "Read of Digits", back, nat.Norm(a))
		again, right := quot.FromBytes(quot.Bytes(a))
		same(t, "FromBytes of Bytes", again, nat.Norm(a))
		if !ok || !right {
			t.Errorf("%x there and back: %v, %v", a, ok, right)
		}
	}
}

func TestOrderOfTexts(t *testing.T) {
	for _, a := range samples() {
		for _, b := range append(samples(), plus(a, 1)) {
			n := nat.Cmp(a, b)
			if byText(quot.Digits(a), quot.Digits(b)) != n || byText(quot.Bytes(a), quot.Bytes(b)) != n {
				t.Errorf("the texts of %x and %x are in another order", a, b)
			}
		}
	}
}

func byText(a, b string) int {
	return cmp.Or(cmp.Compare(len(a), len(b)), cmp.Compare(a, b))
}

func TestOneDigitMore(t *testing.T) {
	r := rule{31}
	for _, a := range append(samples(), r.list(59), r.list(60), r.list(119), r.list(120)) {
		digits := quot.Digits(a)
		if digits == "0" {
			digits = ""
		}
		for d := range uint32(10) {
			if got, want := quot.Digits(plus(times(a, 10), d)), digits+string(byte('0'+d)); got != want {
				t.Errorf("the digits of ten times %x and %d more are %q, want %q", a, d, got, want)
			}
		}
	}
}

func TestGcdOfProducts(t *testing.T) {
	all := samples()
	for i, a := range all {
		for j, b := range all {
			c := all[(7*i+11*j)%len(all)]
			g := quot.Gcd(a, b)
			same(t, "Gcd(b, a)", quot.Gcd(b, a), g)
			same(t, "Gcd(ac, bc) = Gcd(a, b)c", quot.Gcd(nat.Mul(a, c), nat.Mul(b, c)), nat.Mul(g, c))
			if nat.Len(g) == 0 {
				continue
			}
			x, leftA, _ := quot.Div(a, g)
			y, leftB, _ := quot.Div(b, g)
			same(t, "what Gcd leaves of a", leftA, nil)
			same(t, "what Gcd leaves of b", leftB, nil)
			same(t, "Gcd of what is left when it is divided out", quot.Gcd(x, y), list{1})
		}
	}
}

func TestPowOfSum(t *testing.T) {
	for _, b := range []uint32{0, 1, 2, 3, 10, 65535, high, top} {
		for _, m := range []int{0, 1, 2, 7, 100, 1000, 1024, 2047, 2048, 16384} {
			for _, n := range []int{0, 1, 3, 500, 1024, 2048, 16384} {
				x, first := quot.Pow(b, m)
				y, second := quot.Pow(b, n)
				if z, both := quot.Pow(b, m+n); first && second && both && !slices.Equal(z, nat.Mul(x, y)) {
					t.Errorf("Pow(%d, %d + %d) is not the product", b, m, n)
				}
			}
		}
	}
}
