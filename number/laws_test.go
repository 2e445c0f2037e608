package number_test

import (
	"slices"
	"testing"

	"crucible/api"
	"crucible/ieee"
	"crucible/number"
	"crucible/value"
	"crucible/whole"
)

// inWidth is Of of what Narrow answers, read in its width.
func inWidth(width int, bits uint64) api.Value {
	switch width {
	case 16:
		return number.Of(uint16(bits))
	case 32:
		return number.Of(uint32(bits))
	case 64:
		return number.Of(bits)
	}
	return api.Value{}
}

// P15.5: Of of what Bits and Narrow answer of a number is that number again.
func TestBack(t *testing.T) {
	r := rule{1551}
	all := slices.Concat(wholes(), floats())
	for range 20000 {
		all = append(all, r.anything())
	}
	seen := 0
	for _, v := range all {
		bits, ok := number.Bits(v)
		width, narrow, also := number.Narrow(v)
		if ok != also {
			t.Errorf("Bits and Narrow of %s: %v, %v", show(v), ok, also)
		}
		if !ok {
			continue
		}
		seen++
		if back := number.Of(bits); !same(back, v) {
			t.Errorf("Of of Bits of %s is %s", show(v), show(back))
		}
		if back := inWidth(width, narrow); !same(back, v) {
			t.Errorf("Of of Narrow of %s is %s", show(v), show(back))
		}
		if t.Failed() {
			break
		}
	}
	if seen < 5000 {
		t.Errorf("looked at %d", seen)
	}
}

func patternsBack[T ieee.Bits](t *testing.T) {
	k := kindOf[T]()
	for _, x := range many[T]() {
		v := number.Of(x)
		if err := value.Check(v); err != nil {
			t.Errorf("Of(%#x) may not be: %v", x, err)
		}
		bits, ok := number.Bits(v)
		width, narrow, also := number.Narrow(v)
		if !ok || !also || width > int(1+k.exponent+k.fraction) {
			t.Errorf("of the number of %#x, Bits: %v, Narrow: %d, %v", x, ok, width, also)
		}
		want, _ := ieee.To[uint64](x)
		if bits != want && bits != want&^(1<<63) || !same(number.Of(bits), v) || !same(inWidth(width, narrow), v) {
			t.Errorf("of the number of %#x, Bits is %#x, Narrow %d, %#x", x, bits, width, narrow)
		}
		if t.Failed() {
			break
		}
	}
}

// P15.5: every pattern's number may be, some pattern has it, of no greater width, and Of finds the number again.
func TestPatternsBack(t *testing.T) {
	widths(t, patternsBack[uint16], patternsBack[uint32], patternsBack[uint64], patternsBack[own16], patternsBack[own32], patternsBack[own64])
}

func wider[A, B ieee.Bits](t *testing.T) {
	for _, x := range slices.Concat(few[A](), many[A]()) {
		y, _ := ieee.To[B](x)
		if v, w := number.Of(x), number.Of(y); !same(v, w) {
			t.Errorf("Of(%#x) = %s, but wider, Of(%#x) = %s", x, show(v), y, show(w))
			break
		}
	}
}

// P15.5: what To makes of a pattern in a wider width has the same number.
func TestWider(t *testing.T) {
	widths(t, wider[uint16, uint32], wider[uint16, uint64], wider[uint32, uint64], wider[own16, own32], wider[own16, own64], wider[own32, own64])
}

func onlySame[A, B ieee.Bits](t *testing.T) {
	a, b := kindOf[A](), kindOf[B]()
	xs, ys := few[A](), few[B]()
	for _, x := range xs { // so that there are some with one number
		y, _ := ieee.To[B](x)
		ys = append(ys, y, y+1)
	}
	seen := map[bool]int{}
	for _, x := range xs {
		m, v := a.number(uint64(x)), number.Of(x)
		for _, y := range ys {
			n := b.number(uint64(y))
			one := m == nil && n == nil || m != nil && n != nil && m.Cmp(n) == 0
			seen[one]++
			if w := number.Of(y); same(v, w) != one {
				t.Errorf("Of(%#x) = %s, Of(%#x) = %s; one number: %v", x, show(v), y, show(w), one)
				return
			}
		}
	}
	if seen[true] < 100 || seen[false] < 1000 {
		t.Errorf("looked at %v", seen)
	}
}

// P15.5: two patterns, of whatever widths, have one number just if Of of them is the same value.
func TestOnlySame(t *testing.T) {
	widths(t, onlySame[uint16, uint16], onlySame[uint16, uint32], onlySame[uint16, uint64], onlySame[own32, own32], onlySame[uint32, own64], onlySame[own64, uint64])
}

// P15.5: Cmp is 0 just where both are the same value, and is an order of numbers.
func TestCmpIsOrder(t *testing.T) {
	r := rule{1552}
	var pool []api.Value
	for len(pool) < 120 {
		v := r.anything()
		if isNumber(v) && !same(v, float(noNum)) {
			pool = append(pool, v)
		}
	}
	table := make([][]int, len(pool))
	for i, a := range pool {
		for j, b := range pool {
			c, ok := number.Cmp(a, b)
			table[i] = append(table[i], c)
			if !ok || c < -1 || c > 1 || (c == 0) != same(a, b) || (c == 0) != (value.Compare(a, b) == 0) {
				t.Fatalf("Cmp(%s, %s) = %d, %v", show(a), show(b), c, ok)
			}
			if j < i && table[j][i] != -c {
				t.Fatalf("Cmp(%s, %s) = %d, and the other way round %d", show(a), show(b), c, table[j][i])
			}
		}
	}
	for i := range pool {
		for j := range pool {
			for k := range pool {
				if table[i][j] <= 0 && table[j][k] <= 0 && table[i][k] > 0 {
					t.Fatalf("%s is not above %s, that not above %s, but the first above the last", show(pool[i]), show(pool[j]), show(pool[k]))
				}
			}
		}
	}
}

// P15.5: Cmp of the numbers of two patterns of 64 bits is ieee.Cmp of them.
func TestCmpAsPatterns(t *testing.T) {
	r := rule{1553}
	xs := few[uint64]()
	for range 100 {
		x := r.float64()
		xs = append(xs, x, x+1)
	}
	for _, x := range xs {
		for _, y := range xs {
			want, ok := ieee.Cmp(x, y)
			cmpIs(t, number.Of(x), number.Of(y), want, ok)
			if t.Failed() {
				return
			}
		}
	}
}

// P15.5: Cmp of two whole numbers is whole.Cmp of them.
func TestCmpAsWhole(t *testing.T) {
	r := rule{1554}
	all := wholes()
	for range 200 {
		all = append(all, ofBig(r.integer(1+r.below(200))))
	}
	for _, a := range all {
		for _, b := range all {
			cmpIs(t, a, b, whole.Cmp(a.Int, b.Int), true)
			if t.Failed() {
				return
			}
		}
	}
}
