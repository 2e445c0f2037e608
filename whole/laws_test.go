package whole_test

import (
	"fmt"
	"slices"
	"strings"
	"testing"

	"crucible/api"
	"crucible/nat"
	"crucible/whole"
)

// P3.6

func same(t *testing.T, law string, x, y api.Int) {
	t.Helper()
	if !equal(x, y) {
		t.Errorf("%s: %v is not %v", law, x, y)
	}
}

// few are the samples that stand for all where three go together.
func few() []api.Int {
	var out []api.Int
	for i, x := range samples() {
		if i%4 == 1 || i%4 == 2 {
			out = append(out, x)
		}
	}
	return out
}

func TestRing(t *testing.T) {
	nought, one := api.Int{}, at(1)
	for _, x := range samples() {
		same(t, "Neg(Neg(x)) = x", whole.Neg(whole.Neg(x)), whole.Norm(x))
		same(t, "x + Neg(x) = 0", whole.Add(x, whole.Neg(x)), nought)
		same(t, "x - x = 0", whole.Sub(x, x), nought)
		same(t, "x + 0 = x", whole.Add(x, nought), whole.Norm(x))
		same(t, "0 - x = Neg(x)", whole.Sub(nought, x), whole.Neg(x))
		same(t, "x times 1 = x", whole.Mul(x, one), whole.Norm(x))
		same(t, "x times 0 = 0", whole.Mul(x, nought), nought)
		same(t, "x times -1 = Neg(x)", whole.Mul(x, at(-1)), whole.Neg(x))
		for _, y := range samples() {
			same(t, "x + y = y + x", whole.Add(x, y), whole.Add(y, x))
			same(t, "xy = yx", whole.Mul(x, y), whole.Mul(y, x))
			same(t, "x - y = x + Neg(y)", whole.Sub(x, y), whole.Add(x, whole.Neg(y)))
			same(t, "Neg(x)y = Neg(xy)", whole.Mul(whole.Neg(x), y), whole.Neg(whole.Mul(x, y)))
		}
	}
	for _, x := range few() {
		for _, y := range few() {
			for _, z := range few() {
				same(t, "(x + y) + z = x + (y + z)", whole.Add(whole.Add(x, y), z), whole.Add(x, whole.Add(y, z)))
				same(t, "(xy)z = x(yz)", whole.Mul(whole.Mul(x, y), z), whole.Mul(x, whole.Mul(y, z)))
				same(t, "x(y + z) = xy + xz", whole.Mul(x, whole.Add(y, z)), whole.Add(whole.Mul(x, y), whole.Mul(x, z)))
			}
		}
	}
}

func TestOrder(t *testing.T) {
	nought := api.Int{}
	for _, x := range few() {
		for _, y := range few() {
			c := whole.Cmp(x, y)
			if whole.Cmp(y, x) != -c || whole.Cmp(whole.Neg(y), whole.Neg(x)) != c || whole.Cmp(whole.Sub(x, y), nought) != c {
				t.Errorf("the order of %v and %v", x, y)
			}
			for _, z := range few() {
				if whole.Cmp(whole.Add(x, z), whole.Add(y, z)) != c {
					t.Errorf("sums with %v do not keep the order of %v and %v", z, x, y)
				}
				if whole.Cmp(z, nought) > 0 && whole.Cmp(whole.Mul(x, z), whole.Mul(y, z)) != c {
					t.Errorf("products with %v do not keep the order of %v and %v", z, x, y)
				}
				if c <= 0 && whole.Cmp(y, z) <= 0 && whole.Cmp(x, z) > 0 {
					t.Errorf("%v, %v and %v go round", x, y, z)
				}
			}
		}
	}
}

func TestRest(t *testing.T) {
	for _, x := range samples() {
		for _, y := range samples() {
			q, r, ok := whole.Quo(x, y)
			if !ok {
				continue
			}
			same(t, "qy + r = x", whole.Add(whole.Mul(q, y), r), whole.Norm(x))
			if s := whole.Cmp(r, api.Int{}); s != 0 && s != whole.Cmp(x, api.Int{}) || nat.Cmp(r.Mag, y.Mag) >= 0 {
				t.Errorf("Quo(%v, %v) leaves %v", x, y, r)
			}
		}
	}
}

func TestThereAndBack(t *testing.T) {
	r := rule{11}
	long := r.list(3000)
	long[len(long)-1] = 1
	for _, x := range append(samples(), api.Int{Mag: long}, api.Int{Neg: true, Mag: long}) {
		s := whole.Show(x)
		back, ok := whole.Read(s)
		same(t, "Read of Show", back, whole.Norm(x))
		if !ok || whole.Show(back) != s {
			t.Errorf("%.40q, read and shown again: %.40q, %v", s, whole.Show(back), ok)
		}
		size := nat.Len(x.Mag)/8 + 1
		for _, n := range []int{size, size + 1, size + 2, size + 3, size + 4, size + 9} {
			bytes, ok := whole.Twos(x, n)
			same(t, fmt.Sprintf("FromTwos of Twos in %d bytes", n), whole.FromTwos(bytes), whole.Norm(x))
			if !ok || len(bytes) != n {
				t.Errorf("Twos(%v, %d): %d bytes, %v", x, n, len(bytes), ok)
			}
		}
	}
}

// All strings of one byte and of two, and longer ones: Twos of what FromTwos answers is the string.
func TestStringsThereAndBack(t *testing.T) {
	var all []string
	for i := range 256 {
		all = append(all, string([]byte{byte(i)}))
		for j := range 256 {
			all = append(all, string([]byte{byte(i), byte(j)}))
		}
	}
	r := rule{13}
	for size := range 60 {
		for _, first := range []string{"\x00", "\x7f", "\x80", "\xff"} {
			s := r.text(size)
			all = append(all, first+s, first+first+s, first+strings.Repeat("\x00", size), first+strings.Repeat("\xff", size))
		}
	}
	all = append(all, "\x80"+r.text(api.MaxBytes-1), "\x7f"+r.text(api.MaxBytes-1), "\xff\xff"+r.text(api.MaxBytes-2), "\x00\x00"+r.text(api.MaxBytes-2))
	for _, s := range all {
		if got, ok := whole.Twos(whole.FromTwos(s), len(s)); got != s || !ok {
			t.Errorf("Twos(FromTwos(%.16x)) = %.16x, %v", s, got, ok)
		}
	}
}

// answers tells all that the calls answer of two structs.
func answers(x, y api.Int) string {
	small, isSmall := whole.Int64(x)
	plain, isPlain := whole.Uint64(x)
	q, r, ok := whole.Quo(x, y)
	short, isShort := whole.Twos(x, 4)
	long, isLong := whole.Twos(x, 50)
	return fmt.Sprint(
		whole.Norm(x), small, isSmall, plain, isPlain, whole.Cmp(x, y), whole.Neg(x), whole.Add(x, y), whole.Sub(x, y), whole.Mul(x, y),
		q, r, ok, whole.Show(x), short, isShort, long, isLong,
	)
}

// forms are structs of one number: with noughts behind its list, with spare room, with Neg set where it is 0.
func forms(x api.Int) []api.Int {
	out := []api.Int{
		{Neg: x.Neg, Mag: append(slices.Clone(x.Mag), 0)}, {Neg: x.Neg, Mag: append(slices.Clone(x.Mag), 0, 0, 0, 0, 0)}, {Neg: x.Neg, Mag: roomy(x.Mag...)}, whole.Norm(x),
	}
	if nat.Len(x.Mag) == 0 {
		out = append(out, api.Int{Neg: !x.Neg, Mag: x.Mag}, api.Int{Neg: !x.Neg}, api.Int{Neg: !x.Neg, Mag: list{0, 0}}, api.Int{}, api.Int{Neg: true, Mag: roomy()})
	}
	return out
}

func TestFormsSayNothing(t *testing.T) {
	for _, x := range samples() {
		for _, y := range few() {
			want, turned := answers(x, y), answers(y, x)
			for _, form := range forms(x) {
				if got := answers(form, y); got != want {
					t.Errorf("%v instead of %v, with %v, makes a difference:\n%q\n%q", form, x, y, got, want)
				}
				if got := answers(y, form); got != turned {
					t.Errorf("%v instead of %v, behind %v, makes a difference:\n%q\n%q", form, x, y, got, turned)
				}
			}
		}
	}
}
