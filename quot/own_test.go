package quot_test

import (
	"fmt"
	"slices"
	"testing"

	"crucible/quot"
)

// call is one that takes two lists, with all the lists that it answers.
type call struct {
	name string
	make func(a, b list) []list
}

func calls() []call {
	return []call{
		{"Div", func(a, b list) []list { q, r, _ := quot.Div(a, b); return []list{q, r} }},
		{"Gcd", func(a, b list) []list { return []list{quot.Gcd(a, b)} }},
		{"Digits and Read", func(a, b list) []list {
			n, _ := quot.Read(quot.Digits(a))
			return []list{n}
		}},
		{"Bytes and FromBytes", func(a, b list) []list {
			n, _ := quot.FromBytes(quot.Bytes(a))
			return []list{n}
		}},
		{"Pow", func(a, b list) []list {
			n, _ := quot.Pow(7, 100)
			return []list{n}
		}},
	}
}

// roomy is a list with the given limbs and spare room that is not nought.
func roomy(limbs ...uint32) list {
	room := append(slices.Clone(limbs), 77, 78, 79, 80)
	return room[:len(limbs)]
}

func scribble(a list) {
	a = a[:cap(a)]
	for i := range a {
		a[i] ^= 0xa5a5a5a5
	}
}

// pairs lead Div and Gcd through all their branches: by nought, below the divisor, by one limb, by more, without a rest.
func pairs() [][2]list {
	return [][2]list{
		{{3, 4, 5}, nil}, {{3, 4, 5, 0}, {0, 0}}, {nil, {3, 4}}, {{0, 0}, {0}}, {{5}, {9}}, {{5, 0}, {9, 0}}, {{5}, {1, 2, 3}}, {{5, 6, 0, 0}, {1, 2, 3}}, {{3, 4, 5}, {7}}, {{3, 4, 5, 0, 0}, {7, 0}},
		{{3, 4, 5}, {1}}, {{3, 4, 5}, {3, 4, 5}}, {{3, 4, 5, 6}, {1, high}}, {{3, 4, 5, 6, 0}, {1, 2, 0}}, {{0, 0, 0, 8}, {0, 2}}, {{0, 2, high, high - 1}, {top, high + 1, high}}, {{top, top, top}, {top, top}},
	}
}

// R4: what is handed in stays as it was, its spare room too; no two answers share memory, nor does one with what was handed in.
func TestOwnMemory(t *testing.T) {
	for _, c := range calls() {
		for _, p := range pairs() {
			a, b := roomy(p[0]...), roomy(p[1]...)
			fullA, fullB := slices.Clone(a[:cap(a)]), slices.Clone(b[:cap(b)])
			first, second := c.make(a, b), c.make(a, b)
			want := fmt.Sprint(second)
			for i := range first {
				others := fmt.Sprint(first[:i], first[i+1:])
				scribble(first[i])
				if fmt.Sprint(first[:i], first[i+1:]) != others {
					t.Errorf("%s(%x, %x): two lists of one answer share memory", c.name, p[0], p[1])
				}
			}
			if !slices.Equal(a[:cap(a)], fullA) || !slices.Equal(b[:cap(b)], fullB) {
				t.Errorf("%s(%x, %x) changes or shares what is handed in", c.name, p[0], p[1])
			}
			if fmt.Sprint(second) != want {
				t.Errorf("%s(%x, %x): two answers share memory", c.name, p[0], p[1])
			}
			scribble(a)
			scribble(b)
			c.make(a, b)
			if fmt.Sprint(second) != want {
				t.Errorf("%s(%x, %x): the answer hangs on what was handed in", c.name, p[0], p[1])
			}
			if third := c.make(slices.Clone(p[0]), slices.Clone(p[1])); fmt.Sprint(third) != want {
				t.Errorf("%s(%x, %x), asked again, answers %v, want %s", c.name, p[0], p[1], third, want)
			}
		}
	}
}

// answers tells all that the calls answer of two lists.
func answers(a, b list) string {
	q, r, ok := quot.Div(a, b)
	return fmt.Sprint(q, r, ok, quot.Gcd(a, b), quot.Digits(a), quot.Bytes(a))
}

// Noughts at the end of a list say nothing, nor does the room that it is handed in with.
func TestNoughtsAndRoomSayNothing(t *testing.T) {
	for _, a := range samples() {
		for _, b := range samples() {
			want := answers(slices.Clip(a), slices.Clip(b))
			if got := answers(append(slices.Clone(a), 0, 0, 0), append(slices.Clone(b), 0)); got != want {
				t.Errorf("noughts behind %x, %x make a difference:\n%s\n%s", a, b, got, want)
			}
			if got := answers(roomy(a...), roomy(b...)); got != want {
				t.Errorf("spare room behind %x, %x makes a difference:\n%s\n%s", a, b, got, want)
			}
		}
	}
}

// One list may be handed in twice.
func TestOneListTwice(t *testing.T) {
	for _, a := range samples() {
		was := slices.Clone(a)
		if got, want := answers(a, a), answers(a, slices.Clone(a)); got != want || !slices.Equal(a, was) {
			t.Errorf("%x handed in twice: %s, want %s", a, got, want)
		}
	}
}

// R4 in long lists, where numbers are halved on the way.
func TestOwnMemoryLong(t *testing.T) {
	r := rule{37}
	a, b := roomy(append(r.list(700), 5)...), roomy(append(r.list(300), 3)...)
	fullA, fullB := slices.Clone(a[:cap(a)]), slices.Clone(b[:cap(b)])
	text, bytes := quot.Digits(a), quot.Bytes(a)
	first := answers(a, b)
	n, _ := quot.Read(text)
	was := slices.Clone(n)
	if !slices.Equal(a[:cap(a)], fullA) || !slices.Equal(b[:cap(b)], fullB) {
		t.Errorf("long lists are changed")
	}
	scribble(a)
	if told(was) != text || !slices.Equal(n, was) || bytesOf(was) != bytes {
		t.Errorf("answers of long lists hang on what was handed in")
	}
	if got := answers(fullA[:len(a)], fullB[:len(b)]); got != first {
		t.Errorf("asked again, long lists have another answer")
	}
}
