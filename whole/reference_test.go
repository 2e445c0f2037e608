package whole_test

import (
	"slices"
	"testing"

	"crucible/api"
	"crucible/whole"
)

type list = api.Nat

const (
	top  = 1<<32 - 1
	high = 1 << 31
)

// width is more than any product of two samples needs, its sign too.
const width = 24

// wide is a number in two's complement, in limbs: it knows no sign and no size, so that the layer's answers can be held against it.
type wide [width]uint32

func widen(x api.Int) wide {
	var w wide
	copy(w[:], x.Mag)
	if x.Neg {
		return w.opposite()
	}
	return w
}

func (w wide) opposite() wide {
	for i := range w {
		w[i] = ^w[i]
	}
	return w.plus(wide{1})
}

func (w wide) plus(v wide) wide {
	var carry uint64
	for i := range w {
		carry += uint64(w[i]) + uint64(v[i])
		w[i] = uint32(carry)
		carry >>= 32
	}
	return w
}

func (w wide) less(v wide) wide { return w.plus(v.opposite()) }

func (w wide) times(v wide) wide {
	var out wide
	for i := range w {
		var carry uint64
		for j := range width - i {
			carry += uint64(w[i])*uint64(v[j]) + uint64(out[i+j])
			out[i+j] = uint32(carry)
			carry >>= 32
		}
	}
	return out
}

func (w wide) isBelow() bool { return w[width-1] >= high }

func (w wide) order() int {
	switch {
	case w.isBelow():
		return -1
	case w == wide{}:
		return 0
	}
	return 1
}

// number is the struct of w in normal form.
func (w wide) number() api.Int {
	neg := w.isBelow()
	if neg {
		w = w.opposite()
	}
	size := width
	for size > 0 && w[size-1] == 0 {
		size--
	}
	return api.Int{Neg: neg, Mag: slices.Clone(w[:size])}
}

// bytes are the lowest n bytes of w, the highest first, if those ahead of them say nothing but the sign.
func (w wide) bytes(n int) (string, bool) {
	var all []byte
	for i := range w {
		x := w[width-1-i]
		all = append(all, byte(x>>24), byte(x>>16), byte(x>>8), byte(x))
	}
	fill := byte(0)
	if w.isBelow() {
		fill = 255
	}
	cut := len(all) - n
	for _, b := range all[:cut] {
		if b != fill {
			return "", false
		}
	}
	if all[cut]>>7 != fill>>7 {
		return "", false
	}
	return string(all[cut:]), true
}

// rule makes numbers from a fixed rule, with many limbs at the edges of what a limb may be.
type rule struct{ state uint64 }

func (r *rule) next() uint32 {
	r.state = r.state*6364136223846793005 + 1442695040888963407
	return uint32(r.state >> 33)
}

func (r *rule) limb() uint32 {
	switch r.next() % 8 {
	case 0:
		return 0
	case 1:
		return top
	case 2:
		return high
	case 3:
		return []uint32{1, 2, top - 1, high - 1, high + 1}[r.next()%5]
	}
	return r.next()<<16 ^ r.next()
}

func (r *rule) list(size int) list {
	a := make(list, size)
	for i := range a {
		a[i] = r.limb()
	}
	return a
}

func (r *rule) text(size int) string {
	out := make([]byte, size)
	for i := range out {
		out[i] = byte(r.next() >> 3)
	}
	return string(out)
}

// samples are structs of all sorts, each list with Neg and without: 0 in all its forms, the edges of limbs, noughts at the end, mixed ones from a fixed rule.
func samples() []api.Int {
	lists := []list{
		nil, {}, {0}, {0, 0, 0}, {1}, {1, 0}, {2}, {3}, {5, 0, 0}, {7}, {127}, {128}, {129}, {255}, {256}, {32767}, {32768}, {32769}, {65535}, {65536},
		{top}, {top, 0}, {high}, {high - 1}, {high + 1}, {0, 1}, {1, 1}, {0, 1, 0, 0}, {top, high - 1}, {0, high}, {1, high}, {top, top}, {0, 0, 1}, {1, 0, 1}, {0, top, top},
		{top, top, high - 1}, {0, 0, high}, {1, 0, high}, {1, 2, 3, 4, 5, 6, 7, 8},
	}
	r := rule{3}
	for i := range 14 {
		lists = append(lists, r.list(1+i%9))
	}
	var out []api.Int
	for _, a := range lists {
		out = append(out, api.Int{Mag: a}, api.Int{Neg: true, Mag: a})
	}
	return out
}

// at is a small number, by a way of its own.
func at(n int64) api.Int {
	var w wide
	for i := range w {
		w[i] = uint32(n)
		n >>= 32
	}
	return w.number()
}

// power is 2 to the power of n, of any n.
func power(n int) api.Int {
	a := make(list, n/32+1)
	a[n/32] = 1 << (n % 32)
	return api.Int{Mag: a}
}

// read is a number by its digits, which must be one's.
func read(t *testing.T, s string) api.Int {
	t.Helper()
	x, ok := whole.Read(s)
	if !ok {
		t.Fatalf("Read(%q) says false", s)
	}
	return x
}

func equal(x, y api.Int) bool { return x.Neg == y.Neg && slices.Equal(x.Mag, y.Mag) }

// wantInt holds an answer to what it must be: that struct, with no room behind its list that could be shared.
func wantInt(t *testing.T, what string, got, want api.Int) {
	t.Helper()
	if !equal(got, want) {
		t.Errorf("%s = %v, want %v", what, got, want)
	}
	if cap(got.Mag) != len(got.Mag) {
		t.Errorf("%s has room for %d limbs behind its %d", what, cap(got.Mag)-len(got.Mag), len(got.Mag))
	}
}

func wantNone(t *testing.T, what string, got api.Int, ok bool) {
	t.Helper()
	if ok || got.Neg || len(got.Mag) != 0 {
		t.Errorf("%s: %v, %d limbs, %v, want false and the zero struct", what, got.Neg, len(got.Mag), ok)
	}
}
