package nat_test

import (
	"slices"
	"testing"

	"crucible/nat"
)

// call is one that answers a list, of two lists.
type call struct {
	name string
	make func(a, b list) list
}

func calls() []call {
	return []call{
		{"Norm", func(a, b list) list { return nat.Norm(a) }},
		{"Add", nat.Add},
		{"Sub", func(a, b list) list { d, _ := nat.Sub(a, b); return d }},
		{"Mul", nat.Mul},
		{"Shl by 0", func(a, b list) list { s, _ := nat.Shl(a, 0); return s }},
		{"Shl by 7", func(a, b list) list { s, _ := nat.Shl(a, 7); return s }},
		{"Shl by 64", func(a, b list) list { s, _ := nat.Shl(a, 64); return s }},
		{"Shr by 0", func(a, b list) list { q, _, _ := nat.Shr(a, 0); return q }},
		{"Shr by 7", func(a, b list) list { q, _, _ := nat.Shr(a, 7); return q }},
		{"Shr by 32", func(a, b list) list { q, _, _ := nat.Shr(a, 32); return q }},
		{"Small by 1", func(a, b list) list { q, _, _ := nat.Small(a, 1); return q }},
		{"Small by 10", func(a, b list) list { q, _, _ := nat.Small(a, 10); return q }},
		{"From", func(a, b list) list { return nat.From(5) }},
		{"Uint, Len and Cmp", func(a, b list) list { nat.Uint(a); nat.Len(a); nat.Cmp(a, b); return nil }},
	}
}

// roomy is a list with the given limbs and spare room that is not nought.
func roomy(limbs ...uint32) list {
	room := append(slices.Clone(limbs), 77, 78, 79, 80)
	return room[:len(limbs)]
}

func scribble(a list) {
	a = a[:cap(a)]
	for i := range a {
		a[i] ^= 0xa5a5a5a5
	}
}

// R4: what is handed in stays as it was, its spare room too, and answers share no memory with it or with each other.
func TestOwnMemory(t *testing.T) {
	for _, c := range calls() {
		for _, p := range [][2]list{
			{{3, 4, 5}, {1, 2}}, {{3, 4, 5, 0, 0}, {1, 0}}, {{3, 4, 5}, nil}, {{3, 4, 5}, {1, 0, 0}}, {nil, {3, 4}}, {{0, 0}, {0}},
			{{top, top}, {1}}, {{5}, {1}}, {{3, 4}, {3, 4}}, {{1}, {3, 4, 5}}, {{3, 4, 5, 0}, {0, 0}},
		} {
			a, b := roomy(p[0]...), roomy(p[1]...)
			fullA, fullB := slices.Clone(a[:cap(a)]), slices.Clone(b[:cap(b)])
			first, second := c.make(a, b), c.make(a, b)
			want := slices.Clone(first)
			scribble(first)
			if !slices.Equal(a[:cap(a)], fullA) || !slices.Equal(b[:cap(b)], fullB) {
				t.Errorf("%s(%x, %x) changes or shares what is handed in", c.name, p[0], p[1])
			}
			if !slices.Equal(second, want) {
				t.Errorf("%s(%x, %x): two answers share memory", c.name, p[0], p[1])
			}
			scribble(a)
			scribble(b)
			if !slices.Equal(second, want) {
				t.Errorf("%s(%x, %x): the answer hangs on what was handed in", c.name, p[0], p[1])
			}
		}
	}
}

// The spare room that a list is handed in with says nothing either.
func TestRoomSaysNothing(t *testing.T) {
	for _, a := range samples() {
		for _, b := range samples() {
			if got, want := answers(roomy(a...), roomy(b...)), answers(slices.Clip(a), slices.Clip(b)); got != want {
				t.Errorf("spare room behind %x, %x makes a difference:\n%s\n%s", a, b, got, want)
			}
		}
	}
}

// One list may be handed in twice.
func TestOneListTwice(t *testing.T) {
	for _, a := range samples() {
		was := slices.Clone(a)
		same(t, "a + a = 2a", nat.Add(a, a), nat.Mul(a, list{2}))
		same(t, "a times a", nat.Mul(a, a), nat.Mul(a, slices.Clone(a)))
		if nat.Cmp(a, a) != 0 || !slices.Equal(a, was) {
			t.Errorf("%x handed in twice", a)
		}
	}
}

// R4 in long lists, where factors are halved on the way.
func TestOwnMemoryLong(t *testing.T) {
	for _, long := range longs(250) {
		a, b := roomy(long...), roomy(longs(333)[1]...)
		fullA, fullB := slices.Clone(a[:cap(a)]), slices.Clone(b[:cap(b)])
		first, second := nat.Mul(a, b), nat.Mul(a, b)
		want := slices.Clone(first)
		scribble(first)
		if !slices.Equal(a[:cap(a)], fullA) || !slices.Equal(b[:cap(b)], fullB) {
			t.Errorf("Mul changes or shares long lists that are handed in")
		}
		scribble(a)
		scribble(b)
		if !slices.Equal(second, want) {
			t.Errorf("answers of Mul share memory with each other or with long lists that are handed in")
		}
	}
}
