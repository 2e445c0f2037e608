package nat_test

import (
	"fmt"
	"slices"
	"testing"

	"crucible/api"
	"crucible/nat"
)

// P1.6

func same(t *testing.T, law string, a, b list) {
	t.Helper()
	if !slices.Equal(a, b) {
		t.Errorf("%s: %x is not %x", law, a, b)
	}
}

func TestNoughtAndOne(t *testing.T) {
	one := list{1}
	for _, a := range samples() {
		same(t, "a + 0 = a", nat.Add(a, nil), nat.Norm(a))
		same(t, "a times 1 = a", nat.Mul(a, one), nat.Norm(a))
		same(t, "a times 0 = 0", nat.Mul(a, nil), nil)
		less, ok := nat.Sub(a, nil)
		same(t, "a - 0 = a", less, nat.Norm(a))
		none, same0 := nat.Sub(a, a)
		same(t, "a - a = 0", none, nil)
		if !ok || !same0 {
			t.Errorf("Sub(%x, 0), Sub of itself: %v, %v", a, ok, same0)
		}
	}
}

func TestAnyOrder(t *testing.T) {
	all := samples()
	for i, a := range all {
		for j, b := range all {
			c := all[(7*i+11*j)%len(all)]
			same(t, "a + b = b + a", nat.Add(a, b), nat.Add(b, a))
			same(t, "ab = ba", nat.Mul(a, b), nat.Mul(b, a))
			same(t, "(a + b) + c = a + (b + c)", nat.Add(nat.Add(a, b), c), nat.Add(a, nat.Add(b, c)))
			same(t, "(ab)c = a(bc)", nat.Mul(nat.Mul(a, b), c), nat.Mul(a, nat.Mul(b, c)))
			same(t, "a(b + c) = ab + ac", nat.Mul(a, nat.Add(b, c)), nat.Add(nat.Mul(a, b), nat.Mul(a, c)))
		}
	}
}

func TestTakenAwayAgain(t *testing.T) {
	for _, a := range samples() {
		for _, b := range samples() {
			back, ok := nat.Sub(nat.Add(a, b), b)
			same(t, "(a + b) - b = a", back, nat.Norm(a))
			if !ok {
				t.Errorf("Sub of Add(%x, %x) and %x says false", a, b, b)
			}
			less, ok := nat.Sub(a, b)
			if ok != (nat.Cmp(a, b) >= 0) {
				t.Errorf("Sub(%x, %x) says %v, Cmp %d", a, b, ok, nat.Cmp(a, b))
			}
			if ok {
				same(t, "(a - b) + b = a", nat.Add(less, b), nat.Norm(a))
			} else {
				same(t, "there is no a - b", less, nil)
			}
		}
	}
}

func TestOrderIsKept(t *testing.T) {
	all := samples()
	for i, a := range all {
		for j, b := range all {
			c := all[(5*i+3*j)%len(all)]
			n := nat.Cmp(a, b)
			if nat.Cmp(b, a) != -n {
				t.Errorf("Cmp(%x, %x) is %d both ways", a, b, n)
			}
			if nat.Cmp(nat.Add(a, c), nat.Add(b, c)) != n {
				t.Errorf("the sums of %x, %x with %x are in another order", a, b, c)
			}
			if nat.Len(c) > 0 && nat.Cmp(nat.Mul(a, c), nat.Mul(b, c)) != n {
				t.Errorf("the products of %x, %x with %x are in another order", a, b, c)
			}
		}
	}
}

func TestLenBounds(t *testing.T) {
	for _, a := range samples() {
		n := nat.Len(a)
		if above, ok := nat.Shl(list{1}, n); !ok || nat.Cmp(a, above) != -1 {
			t.Errorf("%x is not below 2 to the power of %d", a, n)
		}
		if n == 0 {
			same(t, "Len is 0 of 0 alone", nat.Norm(a), nil)
			continue
		}
		if below, ok := nat.Shl(list{1}, n-1); !ok || nat.Cmp(a, below) == -1 {
			t.Errorf("%x is below 2 to the power of %d", a, n-1)
		}
	}
}

func TestThereAndBack(t *testing.T) {
	steps := []int{0, 1, 5, 31, 32, 33, 63, 64, 65, 100, 1000}
	for _, a := range samples() {
		for _, m := range steps {
			up, ok := nat.Shl(a, m)
			back, more, _ := nat.Shr(up, m)
			same(t, "shifted left and right", back, nat.Norm(a))
			if !ok || more {
				t.Errorf("%x shifted left and right by %d: %v, something left: %v", a, m, ok, more)
			}
			for _, n := range steps {
				twice, _ := nat.Shl(up, n)
				both, _ := nat.Shl(a, m+n)
				same(t, "shifted left by m and then by n", twice, both)
			}
			power, _ := nat.Shl(list{1}, m)
			same(t, "a shifted left is a times a power", up, nat.Mul(a, power))
		}
	}
}

func TestShrIsTheGreatest(t *testing.T) {
	for _, a := range samples() {
		for _, n := range []int{0, 1, 7, 31, 32, 33, 64, 95, 200} {
			q, more, _ := nat.Shr(a, n)
			low, _ := nat.Shl(q, n)
			high, _ := nat.Shl(nat.Add(q, list{1}), n)
			if nat.Cmp(low, a) > 0 || nat.Cmp(high, a) <= 0 || more != (nat.Cmp(low, a) != 0) {
				t.Errorf("Shr(%x, %d) = %x, %v", a, n, q, more)
			}
		}
	}
}

func TestDividedAndBack(t *testing.T) {
	for _, a := range samples() {
		for _, d := range []uint32{1, 2, 7, 10, 1000000000, 1 << 31, top} {
			q, r, ok := nat.Small(a, d)
			same(t, "a = qd + r", nat.Add(nat.Mul(q, list{d}), list{r}), nat.Norm(a))
			if r >= d || !ok {
				t.Errorf("Small(%x, %d) leaves %d, %v", a, d, r, ok)
			}
		}
	}
}

// answers tells all that the calls answer of two lists.
func answers(a, b list) string {
	x, fits := nat.Uint(a)
	less, there := nat.Sub(a, b)
	out := fmt.Sprint(nat.Norm(a), x, fits, nat.Len(a), nat.Cmp(a, b), nat.Add(a, b), less, there, nat.Mul(a, b))
	for _, n := range []int{-1, 0, 1, 31, 32, 70, greatest} {
		up, ok := nat.Shl(a, n)
		q, more, right := nat.Shr(a, n)
		out += fmt.Sprint(up, ok, q, more, right)
	}
	for _, d := range []uint32{0, 1, 10, top} {
		q, r, ok := nat.Small(a, d)
		out += fmt.Sprint(q, r, ok)
	}
	return out
}

func TestNoughtsSayNothing(t *testing.T) {
	for _, a := range samples() {
		for _, b := range samples() {
			longA := append(slices.Clone(a), 0, 0, 0)
			longB := append(slices.Clone(b), 0)
			if got, want := answers(longA, longB), answers(nat.Norm(a), nat.Norm(b)); got != want {
				t.Errorf("noughts behind %x, %x make a difference:\n%s\n%s", a, b, got, want)
			}
		}
	}
	long := make(list, 3*api.MaxLimbs)
	long[0] = 5
	if got, ok := nat.Shl(long, 1); !ok || !slices.Equal(got, list{10}) {
		t.Errorf("Shl of 5 with many noughts behind it: %d limbs, %v", len(got), ok)
	}
}
