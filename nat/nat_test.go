package nat_test

import (
	"fmt"
	"math/bits"
	"testing"

	"crucible/api"
	"crucible/nat"
)

// P1.1

func TestNorm(t *testing.T) {
	for _, c := range []struct{ a, want list }{
		{nil, nil}, {list{}, nil}, {list{0}, nil}, {list{0, 0}, nil}, {list{5, 0, 0}, list{5}},
		{list{0, 1}, list{0, 1}}, {list{0, 1, 0}, list{0, 1}}, {list{1, 0, 2, 0}, list{1, 0, 2}}, {list{top}, list{top}},
	} {
		wantList(t, fmt.Sprintf("Norm(%x)", c.a), nat.Norm(c.a), c.want)
	}
}

func TestFrom(t *testing.T) {
	for _, c := range []struct {
		x    uint64
		want list
	}{
		{0, nil}, {1, list{1}}, {7, list{7}}, {top, list{top}}, {1 << 32, list{0, 1}}, {1<<32 + 5, list{5, 1}},
		{1 << 63, list{0, 1 << 31}}, {1<<64 - 1, list{top, top}},
	} {
		wantList(t, fmt.Sprintf("From(%d)", c.x), nat.From(c.x), c.want)
		if x, ok := nat.Uint(nat.From(c.x)); x != c.x || !ok {
			t.Errorf("Uint(From(%d)) = %d, %v", c.x, x, ok)
		}
	}
}

func TestUint(t *testing.T) {
	for _, c := range []struct {
		a  list
		x  uint64
		ok bool
	}{
		{nil, 0, true}, {list{0, 0, 0}, 0, true}, {list{7}, 7, true}, {list{0, 1, 0}, 1 << 32, true},
		{list{top - 1, top}, 1<<64 - 2, true}, {list{top, top}, 1<<64 - 1, true}, {list{top, top, 0, 0}, 1<<64 - 1, true},
		{list{0, 0, 1}, 0, false}, {list{5, 6, 7}, 0, false}, {list{5, 6, 0, 1}, 0, false},
	} {
		if x, ok := nat.Uint(c.a); x != c.x || ok != c.ok {
			t.Errorf("Uint(%x) = %d, %v, want %d, %v", c.a, x, ok, c.x, c.ok)
		}
	}
}

// P1.2

func TestLen(t *testing.T) {
	for _, c := range []struct {
		a list
		n int
	}{
		{nil, 0}, {list{0, 0}, 0}, {list{1}, 1}, {list{8}, 4}, {list{8, 0, 0}, 4}, {list{top}, 32}, {list{0, 1}, 33}, {list{0, 0, 1 << 31}, 96},
	} {
		if n := nat.Len(c.a); n != c.n {
			t.Errorf("Len(%x) = %d, want %d", c.a, n, c.n)
		}
	}
	for _, a := range samples() {
		if n := nat.Len(a); n != len(digitsOf(a)) {
			t.Errorf("Len(%x) = %d, want %d", a, n, len(digitsOf(a)))
		}
	}
}

func TestCmp(t *testing.T) {
	for _, c := range []struct {
		a, b list
		n    int
	}{
		{list{5}, list{5, 0}, 0}, {nil, list{0, 0}, 0}, {list{0, 1}, list{top}, 1}, {nil, list{1}, -1}, {list{1, 2}, list{2, 1}, 1},
		{list{2, 1}, list{1, 1}, 1}, {list{top}, list{1}, 1}, {list{1, 5, 9}, list{2, 5, 9}, -1}, {list{1, 0, 0}, list{0, 1}, -1},
	} {
		if n := nat.Cmp(c.a, c.b); n != c.n {
			t.Errorf("Cmp(%x, %x) = %d, want %d", c.a, c.b, n, c.n)
		}
	}
	for _, a := range samples() {
		for _, b := range samples() {
			if n, want := nat.Cmp(a, b), compare(digitsOf(a), digitsOf(b)); n != want {
				t.Errorf("Cmp(%x, %x) = %d, want %d", a, b, n, want)
			}
		}
	}
}

// P1.3

func TestAdd(t *testing.T) {
	for _, c := range []struct{ a, b, want list }{
		{nil, nil, nil}, {list{0, 0}, list{0}, nil}, {list{2}, list{3}, list{5}}, {list{top}, list{1}, list{0, 1}},
		{list{top, top, top}, list{1}, list{0, 0, 0, 1}}, {list{1}, list{top, top, top}, list{0, 0, 0, 1}},
		{list{top, top}, list{top, top}, list{top - 1, top, 1}}, {list{5, 0, 0}, nil, list{5}}, {list{top, top, 7}, list{1, 0, 0, 0}, list{0, 0, 8}},
	} {
		wantList(t, fmt.Sprintf("Add(%x, %x)", c.a, c.b), nat.Add(c.a, c.b), c.want)
	}
	for _, a := range samples() {
		for _, b := range samples() {
			wantList(t, fmt.Sprintf("Add(%x, %x)", a, b), nat.Add(a, b), listOf(sum(digitsOf(a), digitsOf(b))))
		}
	}
}

func TestSub(t *testing.T) {
	for _, c := range []struct{ a, b, want list }{
		{nil, nil, nil}, {list{5}, list{5}, nil}, {list{5}, list{3}, list{2}}, {list{0, 1}, list{1}, list{top}},
		{list{0, 0, 0, 1}, list{1}, list{top, top, top}}, {list{5, 0}, list{4, 0, 0}, list{1}}, {list{7, 9}, list{8, 8}, list{top}},
		{list{0, 0, 5}, list{1, 0, 0, 0}, list{top, top, 4}}, {list{0}, list{0, 0}, nil}, {list{9, 0, 0}, nil, list{9}},
	} {
		got, ok := nat.Sub(c.a, c.b)
		wantList(t, fmt.Sprintf("Sub(%x, %x)", c.a, c.b), got, c.want)
		if !ok {
			t.Errorf("Sub(%x, %x) says false", c.a, c.b)
		}
	}
	for _, c := range []struct{ a, b list }{
		{list{5}, list{6}}, {nil, list{1}}, {list{top}, list{0, 1}}, {list{5, 0, 0}, list{6}}, {list{top, 1}, list{0, 2}},
	} {
		got, ok := nat.Sub(c.a, c.b)
		wantNone(t, fmt.Sprintf("Sub(%x, %x)", c.a, c.b), got, ok)
	}
}

func TestMul(t *testing.T) {
	for _, c := range []struct{ a, b, want list }{
		{nil, nil, nil}, {list{5}, nil, nil}, {nil, list{5}, nil}, {list{0, 0}, list{top, top}, nil}, {list{6}, list{7, 0}, list{42}},
		{list{top}, list{top}, list{1, top - 1}}, {list{0, 1}, list{0, 1}, list{0, 0, 1}}, {list{top, top}, list{top, top}, list{1, 0, top - 1, top}},
		{list{top, top, top}, list{top}, list{1, top, top, top - 1}}, {list{1, 0, 0}, list{3, 0, 4, 0}, list{3, 0, 4}},
	} {
		wantList(t, fmt.Sprintf("Mul(%x, %x)", c.a, c.b), nat.Mul(c.a, c.b), c.want)
	}
	for _, a := range samples() {
		for _, b := range samples() {
			wantList(t, fmt.Sprintf("Mul(%x, %x)", a, b), nat.Mul(a, b), listOf(product(digitsOf(a), digitsOf(b))))
		}
	}
}

// Long factors are halved, and the halves halved again: the lengths lie around those where that begins.
func TestMulLong(t *testing.T) {
	for _, sizes := range [][2]int{
		{99, 99}, {100, 100}, {100, 101}, {101, 101}, {101, 102}, {102, 102}, {101, 150}, {101, 151}, {101, 152}, {101, 202}, {101, 203}, {101, 1000}, {130, 390}, {150, 1},
		{199, 200}, {201, 201}, {202, 202}, {203, 203}, {204, 310}, {205, 2051}, {403, 404}, {407, 815}, {1001, 1003},
	} {
		for _, a := range longs(sizes[0]) {
			for _, b := range longs(sizes[1]) {
				want := rows(a, b)
				wantList(t, fmt.Sprintf("Mul of %d and %d limbs", sizes[0], sizes[1]), nat.Mul(a, b), want)
				wantList(t, fmt.Sprintf("Mul of %d and %d limbs", sizes[1], sizes[0]), nat.Mul(b, a), want)
			}
		}
	}
}

// P1.4

func TestShl(t *testing.T) {
	for _, c := range []struct {
		a    list
		n    int
		want list
	}{
		{list{3}, 0, list{3}}, {list{3, 0}, 31, list{1 << 31, 1}}, {list{1}, 32, list{0, 1}}, {list{1}, 64, list{0, 0, 1}},
		{nil, 0, nil}, {nil, greatest, nil}, {list{0, 0}, 9, nil}, {list{0, 0}, greatest, nil},
	} {
		got, ok := nat.Shl(c.a, c.n)
		wantList(t, fmt.Sprintf("Shl(%x, %d)", c.a, c.n), got, c.want)
		if !ok {
			t.Errorf("Shl(%x, %d) says false", c.a, c.n)
		}
	}
	for _, a := range samples() {
		for n := range 100 {
			got, ok := nat.Shl(a, n)
			wantList(t, fmt.Sprintf("Shl(%x, %d)", a, n), got, listOf(doubled(digitsOf(a), n)))
			if !ok {
				t.Errorf("Shl(%x, %d) says false", a, n)
			}
		}
	}
}

func TestShlLimit(t *testing.T) {
	const most = api.MaxLimbs * 32
	for _, a := range []list{{1}, {3, 0, 0}, {0, 1}, {top}, {top, top, 5}} {
		room := most - nat.Len(a)
		got, ok := nat.Shl(a, room)
		if !ok || len(got) != api.MaxLimbs || nat.Len(got) != most {
			t.Errorf("Shl(%x, %d): %d limbs, %v", a, room, len(got), ok)
		}
		if back, more, _ := nat.Shr(got, room); nat.Cmp(back, a) != 0 || more {
			t.Errorf("Shl(%x, %d) is not that number", a, room)
		}
		for _, n := range []int{room + 1, most, most + 1, greatest - 1, greatest} {
			got, ok := nat.Shl(a, n)
			wantNone(t, fmt.Sprintf("Shl(%x, %d)", a, n), got, ok)
		}
	}
}

func TestShlGreatLists(t *testing.T) {
	full := make(list, api.MaxLimbs, api.MaxLimbs+2)
	full[0], full[api.MaxLimbs-1] = 7, 1
	if got, ok := nat.Shl(full, 31); !ok || len(got) != api.MaxLimbs || got[api.MaxLimbs-1] != 1<<31 || got[0] != 7<<31&top {
		t.Errorf("Shl of MaxLimbs limbs by 31: %d limbs, %v", len(got), ok)
	}
	got, ok := nat.Shl(full, 32)
	wantNone(t, "Shl of MaxLimbs limbs by 32", got, ok)
	if got, ok := nat.Shl(append(full, 0), 0); !ok || len(got) != api.MaxLimbs {
		t.Errorf("Shl of MaxLimbs limbs and a nought by 0: %d limbs, %v", len(got), ok)
	}
	for _, n := range []int{0, 1, greatest} {
		got, ok := nat.Shl(append(full, 1), n)
		wantNone(t, fmt.Sprintf("Shl of MaxLimbs limbs and one more by %d", n), got, ok)
	}
}

func TestShrBelowNought(t *testing.T) {
	for _, a := range samples() {
		for _, n := range []int{-1, -32, -greatest, -greatest - 1} {
			q, more, ok := nat.Shr(a, n)
			wantNone(t, fmt.Sprintf("Shr(%x, %d)", a, n), q, ok)
			if more {
				t.Errorf("Shr(%x, %d) says more", a, n)
			}
			q, ok = nat.Shl(a, n)
			wantNone(t, fmt.Sprintf("Shl(%x, %d)", a, n), q, ok)
		}
	}
}

func TestShr(t *testing.T) {
	for _, c := range []struct {
		a    list
		n    int
		want list
		more bool
	}{
		{list{5}, 0, list{5}, false}, {list{0, 1}, 1, list{1 << 31}, false}, {list{5}, 1, list{2}, true}, {list{5}, 3, nil, true},
		{list{5}, 32, nil, true}, {list{5, 0, 0}, 64, nil, true}, {list{5}, greatest, nil, true}, {nil, 9, nil, false}, {list{0, 0}, 33, nil, false},
		{nil, greatest, nil, false}, {list{1, 0, 8}, 64, list{8}, true}, {list{0, 1, 8}, 64, list{8}, true}, {list{0, 0, 8}, 64, list{8}, false},
		{list{0, 0, 8}, 67, list{1}, false}, {list{0, 0, 8}, 68, nil, true}, {list{1, 0, 8}, 67, list{1}, true},
	} {
		q, more, ok := nat.Shr(c.a, c.n)
		wantList(t, fmt.Sprintf("Shr(%x, %d)", c.a, c.n), q, c.want)
		if more != c.more || !ok {
			t.Errorf("Shr(%x, %d) says %v, %v", c.a, c.n, more, ok)
		}
	}
	for _, a := range samples() {
		for _, n := range append(upTo(240), 1<<20, greatest-31, greatest) {
			q, more, ok := nat.Shr(a, n)
			want, left := halved(digitsOf(a), n)
			wantList(t, fmt.Sprintf("Shr(%x, %d)", a, n), q, listOf(want))
			if more != left || !ok {
				t.Errorf("Shr(%x, %d) says %v, %v", a, n, more, ok)
			}
		}
	}
}

func upTo(n int) []int {
	out := make([]int, n)
	for i := range out {
		out[i] = i
	}
	return out
}

// P1.5

func TestSmall(t *testing.T) {
	for _, c := range []struct {
		a    list
		d    uint32
		want list
		r    uint32
	}{
		{list{0, 1}, 10, list{0x19999999}, 6}, {list{7}, 7, list{1}, 0}, {list{6, 0}, 7, nil, 6}, {nil, 9, nil, 0}, {list{0, 0}, 1, nil, 0},
		{list{top, top}, 1, list{top, top}, 0}, {list{top, top}, top, list{1, 1}, 0}, {list{top - 1, top - 1}, top, list{top}, top - 2},
	} {
		q, r, ok := nat.Small(c.a, c.d)
		wantList(t, fmt.Sprintf("Small(%x, %d)", c.a, c.d), q, c.want)
		if r != c.r || !ok {
			t.Errorf("Small(%x, %d) leaves %d, %v, want %d", c.a, c.d, r, ok, c.r)
		}
	}
	for _, a := range samples() {
		for _, d := range []uint32{1, 2, 3, 10, 1000000000, 1 << 31, 1<<31 + 1, top - 1, top} {
			q, r, ok := nat.Small(a, d)
			want, left := divided(digitsOf(a), d)
			wantList(t, fmt.Sprintf("Small(%x, %d)", a, d), q, listOf(want))
			if r != left || !ok {
				t.Errorf("Small(%x, %d) leaves %d, %v, want %d", a, d, r, ok, left)
			}
		}
	}
}

func TestSmallByNought(t *testing.T) {
	for _, a := range samples() {
		q, r, ok := nat.Small(a, 0)
		wantNone(t, fmt.Sprintf("Small(%x, 0)", a), q, ok)
		if r != 0 {
			t.Errorf("Small(%x, 0) leaves %d", a, r)
		}
	}
}

// The machine's own arithmetic of 64 bits is a second witness beside the binary digits.
func TestAgainstWords(t *testing.T) {
	words := []uint64{0, 1, 10, top, 1 << 32, 1<<32 + 1, 0x123456789abcdef, 1 << 63, 1<<64 - 1}
	for _, x := range words {
		for _, y := range words {
			high, low := bits.Mul64(x, y)
			wantList(t, fmt.Sprintf("Mul(%d, %d)", x, y), nat.Mul(nat.From(x), nat.From(y)), nat.Norm(list{uint32(low), uint32(low >> 32), uint32(high), uint32(high >> 32)}))
			low, carry := bits.Add64(x, y, 0)
			wantList(t, fmt.Sprintf("Add(%d, %d)", x, y), nat.Add(nat.From(x), nat.From(y)), nat.Norm(list{uint32(low), uint32(low >> 32), uint32(carry)}))
			if got, ok := nat.Sub(nat.From(x), nat.From(y)); ok != (x >= y) {
				t.Errorf("Sub(%d, %d) says %v", x, y, ok)
			} else if ok {
				wantList(t, fmt.Sprintf("Sub(%d, %d)", x, y), got, nat.From(x-y))
			}
		}
	}
}
