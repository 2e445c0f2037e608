package quot_test

import (
	"slices"
	"strconv"
	"strings"
	"testing"

	"crucible/api"
	"crucible/nat"
)

type list = api.Nat

const (
	top      = 1<<32 - 1
	high     = 1 << 31
	greatest = 1<<63 - 1
)

// read is a number by its decimal digits, digit by digit: slow and plain, to hold the layer's answers against.
func read(s string) list {
	var a list
	for _, c := range []byte(s) {
		carry := uint64(c - '0')
		for i := range a {
			carry += uint64(a[i]) * 10
			a[i] = uint32(carry)
			carry >>= 32
		}
		if carry > 0 {
			a = append(a, uint32(carry))
		}
	}
	return a
}

// told is a number's decimal digits, worked out limb by limb in groups of nine digits, the lowest group first.
func told(a list) string {
	const ten = 1000000000
	var groups []uint64
	for i := len(a) - 1; i >= 0; i-- {
		carry := uint64(a[i])
		for j := range groups {
			carry += groups[j] << 32
			groups[j] = carry % ten
			carry /= ten
		}
		for ; carry > 0; carry /= ten {
			groups = append(groups, carry%ten)
		}
	}
	var out strings.Builder
	for i := len(groups) - 1; i >= 0; i-- {
		group := strconv.FormatUint(groups[i], 10)
		if out.Len() > 0 {
			out.WriteString(strings.Repeat("0", 9-len(group)))
		}
		out.WriteString(group)
	}
	if out.Len() == 0 {
		return "0"
	}
	return out.String()
}

// bytesOf is a number's bytes, the highest first, one by one.
func bytesOf(a list) string {
	var out []byte
	for i := len(a) - 1; i >= 0; i-- {
		for _, x := range []byte{byte(a[i] >> 24), byte(a[i] >> 16), byte(a[i] >> 8), byte(a[i])} {
			if x != 0 || len(out) > 0 {
				out = append(out, x)
			}
		}
	}
	return string(out)
}

// rule makes numbers from a fixed rule, with many limbs at the edges of what a limb may be.
type rule struct{ state uint64 }

func (r *rule) next() uint32 {
	r.state = r.state*6364136223846793005 + 1442695040888963407
	return uint32(r.state >> 33)
}

func (r *rule) limb() uint32 {
	switch r.next() % 8 {
	case 0:
		return 0
	case 1:
		return top
	case 2:
		return high
	case 3:
		return []uint32{1, 2, top - 1, high - 1, high + 1}[r.next()%5]
	}
	return r.next()<<16 ^ r.next()
}

func (r *rule) list(size int) list {
	a := make(list, size)
	for i := range a {
		a[i] = r.limb()
	}
	return a
}

// samples are lists of all sorts: the edges of limbs, noughts at the end, and mixed ones from a fixed rule.
func samples() []list {
	out := []list{
		nil, {}, {0}, {0, 0, 0}, {1}, {1, 0}, {2}, {5}, {9}, {10}, {1000000000}, {999999999}, {top}, {top, 0, 0}, {high}, {top - 1},
		{0, 1}, {0, 1, 0}, {1, 1}, {top, 1}, {top, top}, {0, top}, {1, top}, {0, 0, 1}, {top, top, top}, {0, high}, {top, high - 1},
		{0, 0, 0, 1}, {1, 0, 0, 1}, {top, 0, top}, {top, top, top, top, 0}, {0x89abcdef, 0x1234567}, {0, 0, 0x10000}, {1, 2, 3, 4, 5, 6, 7, 8},
	}
	r := rule{7}
	for i := range 36 {
		out = append(out, r.list(i%9))
	}
	return out
}

// wantList holds an answered list to what it must be: that number's list, with no room behind it that could be shared.
func wantList(t *testing.T, what string, got, want list) {
	t.Helper()
	if !slices.Equal(got, want) {
		t.Errorf("%s = %x, want %x", what, got, want)
	}
	if cap(got) != len(got) {
		t.Errorf("%s has room for %d limbs behind its %d", what, cap(got)-len(got), len(got))
	}
}

func wantNone(t *testing.T, what string, got list, ok bool) {
	t.Helper()
	if ok || len(got) != 0 {
		t.Errorf("%s: %d limbs, %v, want false and no list", what, len(got), ok)
	}
}

func same(t *testing.T, law string, a, b list) {
	t.Helper()
	if !slices.Equal(a, b) {
		t.Errorf("%s: %x is not %x", law, a, b)
	}
}

func times(a list, b uint32) list { return nat.Mul(a, list{b}) }

func plus(a list, b uint32) list { return nat.Add(a, list{b}) }
