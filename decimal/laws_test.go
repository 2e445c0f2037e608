package decimal_test

import (
	"slices"
	"strings"
	"testing"

	"crucible/api"
	"crucible/decimal"
	"crucible/ieee"
)

// read is what Read answers of a decimal number.
func read[T ieee.Bits](t *testing.T, d api.Digits) T {
	t.Helper()
	x, ok := decimal.Read[T](d)
	if !ok {
		t.Fatalf("Read(%s): false", show(d))
	}
	return x
}

// exact is what Exact tells of a finite pattern.
func exact[T ieee.Bits](t *testing.T, x T) api.Digits {
	t.Helper()
	d, ok := decimal.Exact(x)
	if !ok {
		t.Fatalf("Exact(%#x): false", x)
	}
	return d
}

// sample are finite patterns with each sign; of 16 bits all.
func sample[T ieee.Bits]() []T {
	k := kindOf[T]()
	var out []T
	sizes := some[T]()
	if k.exponent == 5 {
		sizes = sizes[:0]
		for x := range k.infinite() {
			sizes = append(sizes, x)
		}
	}
	for _, x := range sizes {
		out = append(out, T(x), T(x+k.sign()))
	}
	return out
}

func readBack[T ieee.Bits](t *testing.T) {
	for _, x := range sample[T]() {
		if got := read[T](t, exact(t, x)); got != x {
			t.Errorf("Exact(%#x) is read as %#x", x, got)
		}
	}
}

// P7.4: Read of Exact of a finite pattern is that pattern.
func TestReadBack(t *testing.T) {
	widths(t, readBack[uint16], readBack[uint32], readBack[uint64], readBack[own16], readBack[own32], readBack[own64])
}

func widened[A, B ieee.Bits](t *testing.T) {
	for _, x := range sample[A]() {
		y, same := ieee.To[B](x)
		if !same {
			t.Fatalf("%#x is another number in a wider width", x)
		}
		if a, b := exact(t, x), exact(t, y); a != b {
			t.Errorf("Exact(%#x) = %s, in a wider width %s", x, show(a), show(b))
		}
	}
}

// P7.4: a pattern and what it is in a wider width have one Exact.
func TestWidened(t *testing.T) {
	widened[uint16, uint32](t)
	widened[uint16, uint64](t)
	widened[uint32, uint64](t)
	widened[own16, own64](t)
	widened[own32, own64](t)
}

// rising are decimal numbers about those patterns, in the order of Cmp.
func rising[T ieee.Bits](t *testing.T) []api.Digits {
	k := kindOf[T]()
	r := rule{uint64(k.fraction) + 31}
	out := []api.Digits{{}, {Neg: true}, plus("1", most), plus("1", least), plus("1", -400), plus("1", 400)}
	for _, x := range edges[T]() {
		d := k.middle(x).inDigits()
		out = append(out, exact(t, T(x)), d, below(d, 3), above(d, 3))
	}
	for range 300 {
		out = append(out, plus(r.text(1+int(r.next()%20)), int(r.next()%uint64(k.taken*2/3))-k.taken/3))
	}
	for _, d := range out {
		out = append(out, minus(d))
	}
	slices.SortFunc(out, func(a, b api.Digits) int {
		c, ok := decimal.Cmp(a, b)
		if !ok {
			t.Fatalf("Cmp(%s, %s): false", show(a), show(b))
		}
		return c
	})
	return out
}

func keepsOrder[T ieee.Bits](t *testing.T) {
	numbers := rising[T](t)
	for i, d := range numbers[1:] {
		x, y := read[T](t, numbers[i]), read[T](t, d)
		if c, ok := ieee.Cmp(x, y); c > 0 || !ok {
			t.Errorf("%s is read as %#x, the greater %s as %#x", show(numbers[i]), x, show(d), y)
		}
	}
}

// P7.4: of two decimal numbers, the lower one's pattern is not above the other one's.
func TestKeepsOrder(t *testing.T) {
	widths(t, keepsOrder[uint16], keepsOrder[uint32], keepsOrder[uint64], keepsOrder[own16], keepsOrder[own32], keepsOrder[own64])
}

func noughts[T ieee.Bits](t *testing.T) {
	for _, d := range rising[T](t) {
		want := read[T](t, d)
		for _, n := range []int{1, 2, 900} {
			more := strings.Repeat("0", n)
			behind := api.Digits{Neg: d.Neg, Text: d.Text + more, Point: d.Point}
			if got := read[T](t, behind); got != want {
				t.Errorf("%s is read as %#x, with %d noughts behind as %#x", show(d), want, n, got)
			}
			if d.Point > most-n {
				continue
			}
			ahead := api.Digits{Neg: d.Neg, Text: more + d.Text, Point: d.Point + n}
			if got := read[T](t, ahead); got != want {
				t.Errorf("%s is read as %#x, with %d noughts ahead as %#x", show(d), want, n, got)
			}
			for _, other := range []api.Digits{behind, ahead} {
				if c, ok := decimal.Cmp(d, other); c != 0 || !ok {
					t.Errorf("Cmp(%s, %s) = %d, %v", show(d), show(other), c, ok)
				}
			}
		}
	}
}

// P7.4: noughts ahead, with as much more in Point, and noughts behind make no difference.
func TestNoughts(t *testing.T) {
	widths(t, noughts[uint16], noughts[uint32], noughts[uint64], noughts[own16], noughts[own32], noughts[own64])
}

// Noughts ahead bring back a Point that is far out: one that is a million.
func TestManyNoughtsAhead(t *testing.T) {
	for _, n := range []int{400, 2000, 1000000} {
		ahead := strings.Repeat("0", n)
		wantRead[uint64](t, plus(ahead+"1", n), 0x3fb999999999999a)
		wantRead[uint64](t, plus(ahead+"17976931348623157", n+309), 0x7fefffffffffffff)
		wantRead[uint64](t, plus(ahead+"5", n-323), 1)
		wantRead[uint16](t, plus(ahead+"65519", n+5), 0x7bff)
		wantRead[uint16](t, plus(ahead+"65520", n+5), 0x7c00)
	}
}

func behind800[T ieee.Bits](t *testing.T) {
	k := kindOf[T]()
	r := rule{uint64(k.fraction) + 41}
	tails := []string{"1", "9", "0000001", strings.Repeat("9", 3000), strings.Repeat("0", 3000) + "5", r.text(100) + "1", "5" + strings.Repeat("0", 50)}
	none := []string{"", "0", strings.Repeat("0", 4000)}
	ask := func(first string, point int) {
		for i, tail := range tails {
			if got, want := read[T](t, plus(first+tail, point)), read[T](t, plus(first+tails[0], point)); got != want {
				t.Errorf("800 digits of %s with tail %d are read as %#x, with another one as %#x", show(plus(first, point)), i, got, want)
			}
		}
		for i, tail := range none {
			if got, want := read[T](t, plus(first+tail, point)), read[T](t, plus(first, point)); got != want {
				t.Errorf("800 digits of %s with noughts %d are read as %#x, without as %#x", show(plus(first, point)), i, got, want)
			}
		}
	}
	for _, x := range edges[T]() {
		d := k.middle(x).inDigits()
		first := d.Text + strings.Repeat("0", 800-len(d.Text))
		ask(first, d.Point)
		// What stands behind the 800th digit makes the difference here.
		wantRead[T](t, plus(first, d.Point), x+x%2)
		for _, tail := range tails {
			wantRead[T](t, plus(first+tail, d.Point), x+1)
		}
	}
	for range 30 {
		ask("7"+r.text(799), int(r.next()%uint64(k.taken*2/3))-k.taken/3)
	}
}

// P7.4: what stands behind the 800th digit says no more than whether a digit is there that is not 0.
func TestBehind800(t *testing.T) {
	widths(t, behind800[uint16], behind800[uint32], behind800[uint64], behind800[own16], behind800[own32], behind800[own64])
}

func cmpOfExact[T ieee.Bits](t *testing.T) {
	var xs []T
	k := kindOf[T]()
	r := rule{uint64(k.fraction) + 51}
	for _, x := range edges[T]() {
		xs = append(xs, T(x), T(x+k.sign()))
	}
	for range 60 {
		x := r.next() % k.infinite()
		xs = append(xs, T(x), T(x+1)%T(k.infinite()), T(x+k.sign()))
	}
	var whole []api.Digits
	for _, x := range xs {
		whole = append(whole, exact(t, x))
	}
	for i, x := range xs {
		for j, y := range xs {
			want, _ := ieee.Cmp(x, y)
			if got, ok := decimal.Cmp(whole[i], whole[j]); got != want || !ok {
				t.Errorf("Cmp of Exact of %#x and %#x = %d, %v, want %d", x, y, got, ok, want)
			}
		}
	}
}

// P7.4: Cmp of two patterns' Exact is ieee.Cmp of them.
func TestCmpOfExact(t *testing.T) {
	widths(t, cmpOfExact[uint16], cmpOfExact[uint32], cmpOfExact[uint64], cmpOfExact[own16], cmpOfExact[own32], cmpOfExact[own64])
}

// P7.3: Cmp is an order: each is itself, the other way round it is the other way round, and what is below what is below is below.
func TestCmpIsAnOrder(t *testing.T) {
	r := rule{61}
	numbers := []api.Digits{{}, {Neg: true}, plus("1", least), plus("01", least), plus("1", most), plus("10", most), minus(plus("1", most)), minus(plus("0001", least)), plus("0", most)}
	for range 60 {
		numbers = append(numbers, r.close())
	}
	at := func(a, b api.Digits) int {
		c, ok := decimal.Cmp(a, b)
		if !ok {
			t.Fatalf("Cmp(%s, %s): false", show(a), show(b))
		}
		return c
	}
	for _, a := range numbers {
		if at(a, a) != 0 {
			t.Errorf("%s is not itself", show(a))
		}
		for _, b := range numbers {
			if at(a, b) != -at(b, a) {
				t.Errorf("Cmp(%s, %s) is not the other way round", show(a), show(b))
			}
			for _, c := range numbers {
				if at(a, b) <= 0 && at(b, c) <= 0 && (at(a, c) > 0 || at(a, c) == 0 && at(a, b) != 0) {
					t.Errorf("%s, %s, %s: no order", show(a), show(b), show(c))
				}
			}
		}
	}
}
