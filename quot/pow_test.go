package quot_test

import (
	"fmt"
	"testing"

	"crucible/nat"
	"crucible/quot"
)

// P2.3

func TestPow(t *testing.T) {
	for _, c := range []struct {
		b    uint32
		n    int
		want list
	}{
		{10, 3, list{1000}}, {2, 40, list{0, 256}}, {7, 0, list{1}}, {7, 1, list{7}}, {7, 2, list{49}}, {top, 1, list{top}}, {top, 2, list{1, top - 1}}, {high, 2, list{0, 1 << 30}},
		{0, 0, list{1}}, {0, 1, nil}, {0, 5, nil}, {0, 65537, nil}, {0, greatest, nil}, {1, 0, list{1}}, {1, 9, list{1}}, {1, 65537, list{1}}, {1, greatest, list{1}},
		{10, 19, read("10000000000000000000")}, {3, 41, read("36472996377170786403")}, {5, 27, read("7450580596923828125")},
	} {
		got, ok := quot.Pow(c.b, c.n)
		wantList(t, fmt.Sprintf("Pow(%d, %d)", c.b, c.n), got, c.want)
		if !ok {
			t.Errorf("Pow(%d, %d) says false", c.b, c.n)
		}
	}
	for _, b := range []uint32{2, 3, 10, 65537, high, top} {
		want := list{1}
		for n := range 200 {
			got, _ := quot.Pow(b, n)
			wantList(t, fmt.Sprintf("Pow(%d, %d)", b, n), got, want)
			want = times(want, b)
		}
	}
}

func TestPowNone(t *testing.T) {
	for _, b := range []uint32{0, 1, 2, 3, 7, 10, high, top} {
		for _, n := range []int{-1, -2, -65536, -greatest, -greatest - 1} {
			got, ok := quot.Pow(b, n)
			wantNone(t, fmt.Sprintf("Pow(%d, %d)", b, n), got, ok)
		}
		if b >= 2 {
			// 1 << 59 times 32 is 2 to the power of 64: a product that wraps round to 0.
			for _, n := range []int{65536, 1 << 32, 1 << 58, 1 << 59, 1 << 62, 1<<62 + 1, greatest - 1, greatest} {
				got, ok := quot.Pow(b, n)
				wantNone(t, fmt.Sprintf("Pow(%d, %d)", b, n), got, ok)
			}
		}
	}
}

// The lowest and the highest number of so many bits, just at the limit and just above.
func TestPowLimit(t *testing.T) {
	for bits := 2; bits <= 32; bits++ {
		for _, b := range []uint32{1 << (bits - 1), 1<<bits - 1} {
			n := 65536 / bits
			got, ok := quot.Pow(b, n)
			half, _ := quot.Pow(b, n/2)
			rest, _ := quot.Pow(b, n-n/2)
			if !ok || nat.Cmp(got, nat.Mul(half, rest)) != 0 {
				t.Errorf("Pow(%d, %d): %d limbs, %v", b, n, len(got), ok)
			}
			got, ok = quot.Pow(b, n+1)
			wantNone(t, fmt.Sprintf("Pow(%d, %d)", b, n+1), got, ok)
		}
	}
	if got, ok := quot.Pow(2, 32768); !ok || len(got) != 1025 || nat.Len(got) != 32769 {
		t.Errorf("Pow(2, 32768): %d limbs, %v", len(got), ok)
	}
	if got, ok := quot.Pow(high, 2048); !ok || nat.Len(got) != 31*2048+1 {
		t.Errorf("Pow(2147483648, 2048): %d limbs, %v", len(got), ok)
	}
}
