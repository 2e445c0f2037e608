package whole_test

import (
	"fmt"
	"slices"
	"testing"

	"crucible/api"
	"crucible/whole"
)

// call is one that takes two structs, with all the numbers that it answers.
type call struct {
	name string
	make func(x, y api.Int) []api.Int
}

func calls() []call {
	return []call{
		{"Norm", func(x, y api.Int) []api.Int { return []api.Int{whole.Norm(x)} }},
		{"Neg", func(x, y api.Int) []api.Int { return []api.Int{whole.Neg(x)} }},
		{"Add", func(x, y api.Int) []api.Int { return []api.Int{whole.Add(x, y)} }},
		{"Sub", func(x, y api.Int) []api.Int { return []api.Int{whole.Sub(x, y)} }},
		{"Mul", func(x, y api.Int) []api.Int { return []api.Int{whole.Mul(x, y)} }},
		{"Quo", func(x, y api.Int) []api.Int { q, r, _ := whole.Quo(x, y); return []api.Int{q, r} }},
		{"From, Int64, Uint64 and Cmp", func(x, y api.Int) []api.Int {
			small, _ := whole.Int64(x)
			plain, _ := whole.Uint64(y)
			return []api.Int{whole.From(small), whole.From(int64(plain)), whole.From(int64(whole.Cmp(x, y)))}
		}},
		{"Show and Read", func(x, y api.Int) []api.Int { n, _ := whole.Read(whole.Show(x)); return []api.Int{n} }},
		{"Twos and FromTwos", func(x, y api.Int) []api.Int { s, _ := whole.Twos(x, 30); return []api.Int{whole.FromTwos(s)} }},
	}
}

// roomy is a list with the given limbs and spare room that is not nought.
func roomy(limbs ...uint32) list {
	room := append(slices.Clone(limbs), 77, 78, 79, 80)
	return room[:len(limbs)]
}

func scribble(a list) {
	a = a[:cap(a)]
	for i := range a {
		a[i] ^= 0xa5a5a5a5
	}
}

// pairs lead the calls through all their branches, with each pair of signs.
func pairs() [][2]api.Int {
	var out [][2]api.Int
	for _, p := range [][2]list{
		{{3, 4, 5}, nil}, {{3, 4, 5, 0}, {0, 0}}, {nil, {3, 4}}, {{0, 0}, {3, 4, 0}}, {{0, 0}, {0}}, {nil, nil}, {{5}, {9}}, {{9, 0}, {5, 0, 0}}, {{3, 4, 5}, {3, 4, 5}}, {{3, 4, 5, 0}, {3, 4, 5}},
		{{3, 4, 5}, {1}}, {{3, 4, 5, 6}, {1, high}}, {{5, 6, 0, 0}, {1, 2, 3}}, {{top, top}, {1}}, {{1, 0, 1}, {0, 0, 1}}, {{0, high}, {top, high - 1}}, {{1, 2, 3, 4, 5, 6, 7, 8}, {9, 8, 7}},
	} {
		for _, neg := range [][2]bool{{false, false}, {false, true}, {true, false}, {true, true}} {
			out = append(out, [2]api.Int{{Neg: neg[0], Mag: p[0]}, {Neg: neg[1], Mag: p[1]}})
		}
	}
	return out
}

// R4: what is handed in stays as it was, its spare room too; no two answers share memory, nor does one with what was handed in.
func TestOwnMemory(t *testing.T) {
	for _, c := range calls() {
		for _, p := range pairs() {
			what := fmt.Sprintf("%s(%v, %v)", c.name, p[0], p[1])
			x, y := api.Int{Neg: p[0].Neg, Mag: roomy(p[0].Mag...)}, api.Int{Neg: p[1].Neg, Mag: roomy(p[1].Mag...)}
			fullX, fullY := slices.Clone(x.Mag[:cap(x.Mag)]), slices.Clone(y.Mag[:cap(y.Mag)])
			first, second := c.make(x, y), c.make(x, y)
			want := fmt.Sprint(second)
			for i := range first {
				others := fmt.Sprint(first[:i], first[i+1:])
				scribble(first[i].Mag)
				if fmt.Sprint(first[:i], first[i+1:]) != others {
					t.Errorf("%s: two lists of one answer share memory", what)
				}
			}
			if !slices.Equal(x.Mag[:cap(x.Mag)], fullX) || !slices.Equal(y.Mag[:cap(y.Mag)], fullY) {
				t.Errorf("%s changes or shares what is handed in", what)
			}
			if fmt.Sprint(second) != want {
				t.Errorf("%s: two answers share memory", what)
			}
			scribble(x.Mag)
			scribble(y.Mag)
			c.make(x, y)
			if fmt.Sprint(second) != want {
				t.Errorf("%s: the answer hangs on what was handed in", what)
			}
			if third := c.make(p[0], p[1]); fmt.Sprint(third) != want {
				t.Errorf("%s, asked again, answers %v, want %s", what, third, want)
			}
		}
	}
}

// One struct may be handed in twice.
func TestOneTwice(t *testing.T) {
	for _, x := range samples() {
		was := slices.Clone(x.Mag)
		y := api.Int{Neg: x.Neg, Mag: was}
		if got, want := answers(x, x), answers(x, y); got != want || !slices.Equal(x.Mag, was) {
			t.Errorf("%v handed in twice: %q, want %q", x, got, want)
		}
	}
}

// R4 in long numbers, below 0 and above.
func TestOwnMemoryLong(t *testing.T) {
	r := rule{17}
	for _, neg := range []bool{false, true} {
		x, y := api.Int{Neg: neg, Mag: roomy(append(r.list(600), 5)...)}, api.Int{Neg: !neg, Mag: roomy(append(r.list(250), 3)...)}
		fullX, fullY := slices.Clone(x.Mag[:cap(x.Mag)]), slices.Clone(y.Mag[:cap(y.Mag)])
		first := answers(x, y)
		s, ok := whole.Twos(x, 3000)
		n := whole.FromTwos(s)
		was := slices.Clone(n.Mag)
		if !ok || !slices.Equal(x.Mag[:cap(x.Mag)], fullX) || !slices.Equal(y.Mag[:cap(y.Mag)], fullY) {
			t.Errorf("long lists are changed")
		}
		scribble(x.Mag)
		scribble(whole.FromTwos(s).Mag)
		if again, _ := whole.Twos(n, 3000); again != s || !slices.Equal(n.Mag, was) {
			t.Errorf("answers of long lists hang on what was handed in")
		}
		if got := answers(api.Int{Neg: neg, Mag: fullX[:len(x.Mag)]}, y); got != first {
			t.Errorf("asked again, long lists have another answer")
		}
	}
}
