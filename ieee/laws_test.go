package ieee_test

import (
	"testing"

	"crucible/api"
	"crucible/ieee"
	"crucible/nat"
	"crucible/whole"
)

func partsBack[T ieee.Bits](t *testing.T) {
	for _, x := range many[T]() {
		neg, m, e, ok := ieee.Parts(x)
		if !ok {
			continue
		}
		if got := ieee.Round[T](neg, nat.From(m), e, false); got != x {
			t.Errorf("Round of the parts of %#x = %#x", x, got)
		}
	}
}

// P4.9: Round of a finite pattern's parts is that pattern.
func TestPartsBack(t *testing.T) {
	widths(t, partsBack[uint16], partsBack[uint32], partsBack[uint64], partsBack[own16], partsBack[own32], partsBack[own64])
}

func rising[T ieee.Bits](t *testing.T) {
	k := kindOf[T]()
	r := rule{61}
	for range 5000 {
		digits := r.below(90)
		a := amount{r.list(digits), -k.taken - digits + r.below(2*k.taken)}
		b := amount{r.list(digits), a.e}
		if r.below(2) == 0 {
			b = a.plus(uint64(r.below(3)))
		}
		moreA, moreB := r.below(2) == 0, r.below(2) == 0
		negA, negB := r.below(2) == 0, r.below(2) == 0
		order := whole.Cmp(api.Int{Neg: negA, Mag: a.halves(moreA)}, api.Int{Neg: negB, Mag: b.halves(moreB)})
		x, y := ieee.Round[T](negA, a.m, a.e, moreA), ieee.Round[T](negB, b.m, b.e, moreB)
		if n, ok := ieee.Cmp(x, y); !ok || n*order < 0 || order == 0 && n != 0 {
			t.Errorf("the nearest patterns to %v (%v) and %v (%v) are %#x and %#x", a, moreA, b, moreB, x, y)
		}
	}
}

// halves is how many halves of the power of 2 there are.
func (a amount) halves(more bool) list {
	if more {
		return odd(a.m)
	}
	return nat.Add(a.m, a.m)
}

// P4.9: of two numbers, the lower one's nearest pattern is not above the other one's.
func TestRoundRises(t *testing.T) {
	widths(t, rising[uint16], rising[uint32], rising[uint64], rising[own16], rising[own32], rising[own64])
}

func moreKnown[T ieee.Bits](t *testing.T) {
	k := kindOf[T]()
	r := rule{71}
	for i := range 5000 {
		digits := int(k.fraction) + 3 + i%3
		if i%20 == 0 {
			digits += r.below(200)
		}
		m := r.list(digits)
		e := -k.taken - digits - 3 + r.below(2*k.taken)
		want := ieee.Round[T](false, m, e, true)
		fine := amount{m, e}.finer(80)
		end := amount{nat.Add(m, list{1}), e}.finer(80)
		for _, a := range []amount{fine.plus(1), fine.plus(2), fine.plus(r.next()), {nat.Add(fine.m, r.list(80)), fine.e}, {nat.Add(fine.m, r.list(79)), fine.e}, end.less(r.next()), end.less(2), end.less(1)} {
			for _, more := range []bool{false, true} {
				if got := ieee.Round[T](false, a.m, a.e, more); got != want {
					t.Errorf("Round of %v 2^%d with more = %#x, but %#x of %v 2^%d and more %v", m, e, want, got, a.m, a.e, more)
				}
			}
		}
	}
}

// P4.9: whoever knows more than m may say so.
func TestMore(t *testing.T) {
	widths(t, moreKnown[uint16], moreKnown[uint32], moreKnown[uint64], moreKnown[own16], moreKnown[own32], moreKnown[own64])
}

func wider[B, A ieee.Bits](t *testing.T) {
	k := kindOf[A]()
	for _, x := range many[A]() {
		y, same := ieee.To[B](x)
		back, again := ieee.To[A](y)
		want := x
		if !k.isNumber(uint64(x)) {
			want = noNumber[A]()
		}
		if !same || !again || back != want {
			t.Errorf("To a wider one (%#x) = %#x, %v, and back %#x, %v", x, y, same, back, again)
		}
	}
}

// noNumber is the one pattern for no number.
func noNumber[T ieee.Bits]() T {
	k := kindOf[T]()
	return T(k.infinite() + 1<<(k.fraction-1))
}

// P4.9: from a width to a wider one, or its own, nothing is lost, and back it is as it was.
func TestWider(t *testing.T) {
	for _, f := range []func(*testing.T){
		wider[uint16, uint16], wider[uint32, uint16], wider[uint64, uint16], wider[uint32, uint32], wider[uint64, uint32], wider[uint64, uint64],
		wider[own16, own16], wider[own32, own16], wider[own64, own16], wider[uint32, own32], wider[own64, uint32], wider[own64, own64], wider[own16, uint16], wider[uint64, own64],
	} {
		f(t)
	}
}

func sameBack[B, A ieee.Bits](t *testing.T) {
	k := kindOf[A]()
	for _, x := range append(many[A](), nearby[A, B]()...) {
		y, same := ieee.To[B](x)
		back, _ := ieee.To[A](y)
		if want := back == x || !k.isNumber(uint64(x)); same != want {
			t.Errorf("To (%#x) = %#x, %v, but back %#x", x, y, same, back)
		}
	}
}

// P4.9: To says that it is the same just where To back gives the pattern, or it was no number.
func TestSameBack(t *testing.T) {
	for _, f := range []func(*testing.T){
		sameBack[uint16, uint16], sameBack[uint16, uint32], sameBack[uint16, uint64], sameBack[uint32, uint16], sameBack[uint32, uint32], sameBack[uint32, uint64], sameBack[uint64, uint16], sameBack[uint64, uint32], sameBack[uint64, uint64],
		sameBack[own16, own64], sameBack[own16, own32], sameBack[own32, own64], sameBack[own64, own16],
	} {
		f(t)
	}
}

func nextLaws[T ieee.Bits](t *testing.T) {
	k := kindOf[T]()
	all, others := many[T](), few[T]()
	for i, x := range all {
		y := ieee.Next(x)
		n, ok := ieee.Cmp(x, y)
		switch {
		case !k.isNumber(uint64(x)):
			if ok || x != y {
				t.Errorf("Next of no number %#x = %#x", x, y)
			}
			continue
		case uint64(x) == k.infinite():
			if n != 0 || !ok {
				t.Errorf("Next of plus infinity = %#x", y)
			}
		case n != -1 || !ok:
			t.Errorf("%#x is not below Next of it, %#x", x, y)
		}
		for _, z := range append(others, all[(i+1)%len(all)], all[(i+2)%len(all)], x+1, x-1, y+1, y-1) {
			if a, ok := ieee.Cmp(x, z); ok && a < 0 {
				if b, _ := ieee.Cmp(z, y); b < 0 {
					t.Errorf("%#x stands between %#x and %#x", z, x, y)
				}
			}
		}
	}
}

// P4.9: between x and Next(x) there is no other number; x is below it.
func TestNextLaws(t *testing.T) {
	widths(t, nextLaws[uint16], nextLaws[uint32], nextLaws[uint64], nextLaws[own16], nextLaws[own32], nextLaws[own64])
}

// All numbers of 16 bits, one behind the other.
func TestNextWalk(t *testing.T) {
	x := uint16(0xfc00)
	steps := 0
	for ; x != 0x7c00 && steps < 1<<17; steps++ {
		y := ieee.Next(x)
		if n, ok := ieee.Cmp(x, y); n != -1 || !ok {
			t.Fatalf("Next(%#x) = %#x", x, y)
		}
		x = y
	}
	if steps != 2*0x7c00 {
		t.Errorf("%#x steps from minus infinity to plus infinity, want %#x", steps, 2*0x7c00)
	}
}

func totals[T ieee.Bits](t *testing.T) {
	xs := few[T]()
	for _, x := range xs {
		for _, y := range xs {
			n := ieee.Total(x, y)
			if n != -ieee.Total(y, x) || (n == 0) != (x == y) {
				t.Errorf("Total(%#x, %#x) = %d", x, y, n)
			}
			c, ok := ieee.Cmp(x, y)
			zeros := ieee.Class(x) == api.ClassZero && ieee.Class(y) == api.ClassZero
			if ok && !zeros && c != n {
				t.Errorf("Total(%#x, %#x) = %d, Cmp %d", x, y, n, c)
			}
		}
	}
}

// P4.9: Total agrees with Cmp where both are numbers and not both 0.
func TestTotalAgrees(t *testing.T) {
	widths(t, totals[uint16], totals[uint32], totals[uint64], totals[own16], totals[own32], totals[own64])
}
