package nat_test

import (
	"slices"
	"testing"

	"crucible/api"
)

type list = api.Nat

const (
	top      = 1<<32 - 1
	greatest = 1<<63 - 1
)

// digits is a number by its binary digits, the lowest first, without noughts at the end: slow and plain, to hold the layer's answers against.
type digits []byte

func cut(d digits) digits {
	for len(d) > 0 && d[len(d)-1] == 0 {
		d = d[:len(d)-1]
	}
	return d
}

func digitsOf(a list) digits {
	var d digits
	for _, x := range a {
		for i := range 32 {
			d = append(d, byte(x>>i&1))
		}
	}
	return cut(d)
}

func listOf(d digits) list {
	d = cut(d)
	a := make(list, (len(d)+31)/32)
	for i, x := range d {
		a[i/32] |= uint32(x) << (i % 32)
	}
	return a
}

func digit(d digits, i int) byte {
	if i < len(d) {
		return d[i]
	}
	return 0
}

func compare(a, b digits) int {
	for i := max(len(a), len(b)) - 1; i >= 0; i-- {
		if x, y := digit(a, i), digit(b, i); x != y {
			return int(x) - int(y)
		}
	}
	return 0
}

func sum(a, b digits) digits {
	var out digits
	var carry byte
	for i := range max(len(a), len(b)) + 1 {
		s := digit(a, i) + digit(b, i) + carry
		out = append(out, s&1)
		carry = s >> 1
	}
	return cut(out)
}

func product(a, b digits) digits {
	var out digits
	for i, x := range a {
		if x == 1 {
			out = sum(out, doubled(b, i))
		}
	}
	return out
}

// rows is the product of two long lists, limb by limb, where binary digits would take too long.
func rows(a, b list) list {
	out := make(list, len(a)+len(b))
	for i, x := range a {
		var carry uint64
		for j, y := range b {
			carry += uint64(x)*uint64(y) + uint64(out[i+j])
			out[i+j] = uint32(carry)
			carry >>= 32
		}
		out[i+len(b)] = uint32(carry)
	}
	for len(out) > 0 && out[len(out)-1] == 0 {
		out = out[:len(out)-1]
	}
	return out
}

func doubled(a digits, n int) digits {
	return append(make(digits, n), a...)
}

func halved(a digits, n int) (q digits, more bool) {
	n = min(n, len(a))
	return a[n:], slices.Contains(a[:n], 1)
}

func divided(a digits, d uint32) (q digits, r uint32) {
	q = make(digits, len(a))
	var left uint64
	for i := len(a) - 1; i >= 0; i-- {
		left = left<<1 | uint64(a[i])
		if left >= uint64(d) {
			left -= uint64(d)
			q[i] = 1
		}
	}
	return q, uint32(left)
}

// samples are lists of all sorts: the edges of limbs, noughts at the end, and mixed ones from a fixed rule.
func samples() []list {
	out := []list{
		nil, {}, {0}, {0, 0, 0}, {1}, {1, 0}, {2}, {5}, {8}, {10}, {top}, {top, 0, 0}, {1 << 31}, {top - 1},
		{0, 1}, {0, 1, 0}, {1, 1}, {top, 1}, {top, top}, {0, top}, {1, top}, {0, 0, 1}, {top, top, top}, {0, 1 << 31},
		{0, 0, 0, 1}, {1, 0, 0, 1}, {top, 0, top}, {top, top, top, top, 0}, {0x89abcdef, 0x1234567}, {0, 0, 0x10000},
	}
	state := uint64(88172645463325252)
	for i := range 30 {
		a := make(list, i%7)
		for j := range a {
			state = state*6364136223846793005 + 1442695040888963407
			a[j] = mixed(state >> 32)
		}
		out = append(out, a)
	}
	return out
}

// longs are lists of the given length: full, mixed, and with noughts in their lower or upper half.
func longs(size int) []list {
	full, even, low, upper, state := make(list, size), make(list, size), make(list, size), make(list, size), uint64(size)
	for i := range size {
		state = state*6364136223846793005 + 1442695040888963407
		full[i], even[i] = top, mixed(state>>32)
		if i < size/2 {
			low[i] = even[i]
		} else {
			upper[i] = even[i]
		}
	}
	return []list{full, even, low, upper}
}

func mixed(x uint64) uint32 {
	switch x % 5 {
	case 0:
		return 0
	case 1:
		return top
	}
	return uint32(x)
}

// wantList holds an answered list to what it must be: that number's list, cut to its own room.
func wantList(t *testing.T, what string, got, want list) {
	t.Helper()
	if !slices.Equal(got, want) {
		t.Errorf("%s = %x, want %x", what, got, want)
	}
	if cap(got) != len(got) {
		t.Errorf("%s has room for %d limbs behind its %d", what, cap(got)-len(got), len(got))
	}
}

func wantNone(t *testing.T, what string, got list, ok bool) {
	t.Helper()
	if ok || len(got) != 0 {
		t.Errorf("%s = %x, %v, want false and no list", what, got, ok)
	}
}
