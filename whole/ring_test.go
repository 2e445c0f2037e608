package whole_test

import (
	"fmt"
	"math"
	"testing"

	"crucible/api"
	"crucible/nat"
	"crucible/whole"
)

// P3.1

func TestNorm(t *testing.T) {
	for _, c := range []struct{ x, want api.Int }{
		{api.Int{}, api.Int{}}, {api.Int{Neg: true}, api.Int{}}, {api.Int{Neg: true, Mag: list{}}, api.Int{}}, {api.Int{Mag: list{0, 0}}, api.Int{}}, {api.Int{Neg: true, Mag: list{0}}, api.Int{}},
		{api.Int{Neg: true, Mag: list{5, 0}}, api.Int{Neg: true, Mag: list{5}}}, {api.Int{Mag: list{5, 0, 0, 0}}, api.Int{Mag: list{5}}},
		{api.Int{Neg: true, Mag: list{0, 1}}, api.Int{Neg: true, Mag: list{0, 1}}}, {api.Int{Mag: list{0, 0, 7, 0}}, api.Int{Mag: list{0, 0, 7}}},
	} {
		wantInt(t, fmt.Sprintf("Norm(%v)", c.x), whole.Norm(c.x), c.want)
	}
	for _, x := range samples() {
		wantInt(t, fmt.Sprintf("Norm(%v)", x), whole.Norm(x), widen(x).number())
	}
}

func TestFrom(t *testing.T) {
	for _, c := range []struct {
		n    int64
		want api.Int
	}{
		{0, api.Int{}}, {1, api.Int{Mag: list{1}}}, {-1, api.Int{Neg: true, Mag: list{1}}}, {5, api.Int{Mag: list{5}}}, {-5, api.Int{Neg: true, Mag: list{5}}},
		{top, api.Int{Mag: list{top}}}, {-top, api.Int{Neg: true, Mag: list{top}}}, {1 << 32, api.Int{Mag: list{0, 1}}}, {-1 << 32, api.Int{Neg: true, Mag: list{0, 1}}}, {high, api.Int{Mag: list{high}}},
		{math.MaxInt64, api.Int{Mag: list{top, high - 1}}}, {math.MinInt64, api.Int{Neg: true, Mag: list{0, high}}}, {math.MinInt64 + 1, api.Int{Neg: true, Mag: list{top, high - 1}}},
	} {
		wantInt(t, fmt.Sprintf("From(%d)", c.n), whole.From(c.n), c.want)
	}
	for i := range 63 {
		for _, n := range []int64{1 << i, 1<<i - 1, 1<<i + 1, -1 << i, -1<<i - 1, -1<<i + 1} {
			wantInt(t, fmt.Sprintf("From(%d)", n), whole.From(n), at(n))
			if got, ok := whole.Int64(whole.From(n)); got != n || !ok {
				t.Errorf("Int64(From(%d)) = %d, %v", n, got, ok)
			}
		}
	}
}

func TestInt64(t *testing.T) {
	for _, c := range []struct {
		x    api.Int
		want int64
		ok   bool
	}{
		{api.Int{}, 0, true}, {api.Int{Neg: true}, 0, true}, {api.Int{Neg: true, Mag: list{0, 0, 0}}, 0, true}, {api.Int{Neg: true, Mag: list{5, 0, 0}}, -5, true}, {api.Int{Mag: list{5, 0, 0}}, 5, true},
		{api.Int{Mag: list{top, high - 1}}, math.MaxInt64, true}, {api.Int{Mag: list{top, high - 1, 0}}, math.MaxInt64, true}, {api.Int{Neg: true, Mag: list{top, high - 1}}, -math.MaxInt64, true},
		{api.Int{Mag: list{0, high}}, 0, false}, {api.Int{Neg: true, Mag: list{0, high}}, math.MinInt64, true}, {api.Int{Neg: true, Mag: list{0, high, 0, 0}}, math.MinInt64, true},
		{api.Int{Neg: true, Mag: list{1, high}}, 0, false}, {api.Int{Mag: list{1, high}}, 0, false}, {api.Int{Mag: list{top, top}}, 0, false}, {api.Int{Neg: true, Mag: list{top, top}}, 0, false},
		{api.Int{Mag: list{0, 0, 1}}, 0, false}, {api.Int{Neg: true, Mag: list{0, 0, 1}}, 0, false}, {api.Int{Mag: list{5, 0, 1}}, 0, false}, {api.Int{Neg: true, Mag: list{5, 0, 0, 1}}, 0, false},
	} {
		if got, ok := whole.Int64(c.x); got != c.want || ok != c.ok {
			t.Errorf("Int64(%v) = %d, %v, want %d, %v", c.x, got, ok, c.want, c.ok)
		}
	}
	for _, x := range samples() {
		low, fits := widen(x).bytes(8)
		got, ok := whole.Int64(x)
		if ok != fits || !equal(at(got), widen(x).number()) && fits || got != 0 && !fits {
			t.Errorf("Int64(%v) = %d, %v, want %x, %v", x, got, ok, low, fits)
		}
	}
}

func TestUint64(t *testing.T) {
	for _, c := range []struct {
		x    api.Int
		want uint64
		ok   bool
	}{
		{api.Int{}, 0, true}, {api.Int{Neg: true}, 0, true}, {api.Int{Neg: true, Mag: list{0, 0, 0}}, 0, true}, {api.Int{Mag: list{5, 0, 0}}, 5, true}, {api.Int{Neg: true, Mag: list{5, 0}}, 0, false},
		{api.Int{Neg: true, Mag: list{1}}, 0, false}, {api.Int{Mag: list{0, high}}, 1 << 63, true}, {api.Int{Mag: list{top, top}}, math.MaxUint64, true}, {api.Int{Mag: list{top, top, 0, 0}}, math.MaxUint64, true},
		{api.Int{Neg: true, Mag: list{top, top}}, 0, false}, {api.Int{Mag: list{0, 0, 1}}, 0, false}, {api.Int{Neg: true, Mag: list{0, 0, 1}}, 0, false}, {api.Int{Mag: list{5, 0, 0, 1}}, 0, false},
	} {
		if got, ok := whole.Uint64(c.x); got != c.want || ok != c.ok {
			t.Errorf("Uint64(%v) = %d, %v, want %d, %v", c.x, got, ok, c.want, c.ok)
		}
	}
}

// P3.2

// small numbers, and the edges of one limb and of two, whose sums and products the language has itself.
func small() []int64 {
	out := []int64{-1 << 31, 1<<31 - 1, -1<<31 + 1, 1 << 30, 65536, -65536, 46341, -46341}
	for n := range int64(21) {
		out = append(out, n-10)
	}
	return out
}

func TestSmallNumbers(t *testing.T) {
	for _, x := range small() {
		wantInt(t, fmt.Sprintf("Neg(%d)", x), whole.Neg(at(x)), at(-x))
		for _, y := range small() {
			wantInt(t, fmt.Sprintf("Add(%d, %d)", x, y), whole.Add(at(x), at(y)), at(x+y))
			wantInt(t, fmt.Sprintf("Sub(%d, %d)", x, y), whole.Sub(at(x), at(y)), at(x-y))
			wantInt(t, fmt.Sprintf("Mul(%d, %d)", x, y), whole.Mul(at(x), at(y)), at(x*y))
			if got := whole.Cmp(at(x), at(y)); got != order(x, y) {
				t.Errorf("Cmp(%d, %d) = %d", x, y, got)
			}
			q, r, ok := whole.Quo(at(x), at(y))
			what := fmt.Sprintf("Quo(%d, %d)", x, y)
			if y == 0 {
				wantNone(t, what, q, ok)
				wantNone(t, "what is left of "+what, r, ok)
				continue
			}
			wantInt(t, what, q, at(x/y))
			wantInt(t, "what is left of "+what, r, at(x%y))
			if !ok {
				t.Errorf("%s says false", what)
			}
		}
	}
}

func order(x, y int64) int {
	switch {
	case x < y:
		return -1
	case x > y:
		return 1
	}
	return 0
}

func TestSums(t *testing.T) {
	for _, x := range samples() {
		wantInt(t, fmt.Sprintf("Neg(%v)", x), whole.Neg(x), widen(x).opposite().number())
		for _, y := range samples() {
			v, w := widen(x), widen(y)
			wantInt(t, fmt.Sprintf("Add(%v, %v)", x, y), whole.Add(x, y), v.plus(w).number())
			wantInt(t, fmt.Sprintf("Sub(%v, %v)", x, y), whole.Sub(x, y), v.less(w).number())
			wantInt(t, fmt.Sprintf("Mul(%v, %v)", x, y), whole.Mul(x, y), v.times(w).number())
			if got, want := whole.Cmp(x, y), v.less(w).order(); got != want {
				t.Errorf("Cmp(%v, %v) = %d, want %d", x, y, got, want)
			}
		}
	}
}

// Each pair of signs, in numbers that take several limbs, and where the answer is 0.
func TestSigns(t *testing.T) {
	a, b := "340282366920938463463374607431768211456", "18446744073709551617"
	for _, c := range []struct{ x, y, sum, difference, product string }{
		{a, b, "340282366920938463481821351505477763073", "340282366920938463444927863358058659839", "6277101735386680764176071790128604879565730051895802724352"},
		{a, "-" + b, "340282366920938463444927863358058659839", "340282366920938463481821351505477763073", "-6277101735386680764176071790128604879565730051895802724352"},
		{"-" + a, b, "-340282366920938463444927863358058659839", "-340282366920938463481821351505477763073", "-6277101735386680764176071790128604879565730051895802724352"},
		{"-" + a, "-" + b, "-340282366920938463481821351505477763073", "-340282366920938463444927863358058659839", "6277101735386680764176071790128604879565730051895802724352"},
		{b, "-" + a, "-340282366920938463444927863358058659839", "340282366920938463481821351505477763073", "-6277101735386680764176071790128604879565730051895802724352"},
		{b, b, "36893488147419103234", "0", "340282366920938463500268095579187314689"},
		{b, "-" + b, "0", "36893488147419103234", "-340282366920938463500268095579187314689"},
		{"-" + b, b, "0", "-36893488147419103234", "-340282366920938463500268095579187314689"},
		{"-" + b, "-" + b, "-36893488147419103234", "0", "340282366920938463500268095579187314689"},
		{"0", b, b, "-" + b, "0"}, {"0", "-" + b, "-" + b, b, "0"}, {b, "0", b, b, "0"}, {"-" + b, "0", "-" + b, "-" + b, "0"}, {"0", "0", "0", "0", "0"},
	} {
		x, y := read(t, c.x), read(t, c.y)
		wantInt(t, c.x+" + "+c.y, whole.Add(x, y), read(t, c.sum))
		wantInt(t, c.x+" - "+c.y, whole.Sub(x, y), read(t, c.difference))
		wantInt(t, c.x+" times "+c.y, whole.Mul(x, y), read(t, c.product))
	}
}

// P3.3

func TestQuo(t *testing.T) {
	for _, c := range [][4]string{
		{"7", "2", "3", "1"}, {"-7", "2", "-3", "-1"}, {"7", "-2", "-3", "1"}, {"-7", "-2", "3", "-1"}, {"6", "2", "3", "0"}, {"-6", "2", "-3", "0"}, {"6", "-2", "-3", "0"}, {"-6", "-2", "3", "0"},
		{"3", "5", "0", "3"}, {"-3", "5", "0", "-3"}, {"3", "-5", "0", "3"}, {"-3", "-5", "0", "-3"}, {"0", "5", "0", "0"}, {"0", "-5", "0", "0"}, {"5", "5", "1", "0"}, {"5", "-5", "-1", "0"}, {"-5", "1", "-5", "0"},
		{"100000000000000000000000000007", "10000000000000000000", "10000000000", "7"}, {"-100000000000000000000000000007", "10000000000000000000", "-10000000000", "-7"},
		{"100000000000000000000000000007", "-10000000000000000000", "-10000000000", "7"}, {"-100000000000000000000000000007", "-10000000000000000000", "10000000000", "-7"},
		{"-10000000000000000000", "100000000000000000000000000007", "0", "-10000000000000000000"},
	} {
		q, r, ok := whole.Quo(read(t, c[0]), read(t, c[1]))
		wantInt(t, fmt.Sprintf("Quo(%s, %s)", c[0], c[1]), q, read(t, c[2]))
		wantInt(t, fmt.Sprintf("what Quo(%s, %s) leaves", c[0], c[1]), r, read(t, c[3]))
		if !ok {
			t.Errorf("Quo(%s, %s) says false", c[0], c[1])
		}
	}
}

func TestQuoByNought(t *testing.T) {
	for _, x := range samples() {
		for _, y := range []api.Int{{}, {Neg: true}, {Mag: list{0, 0}}, {Neg: true, Mag: list{0}}} {
			q, r, ok := whole.Quo(x, y)
			wantNone(t, fmt.Sprintf("Quo(%v, %v)", x, y), q, ok)
			wantNone(t, fmt.Sprintf("what Quo(%v, %v) leaves", x, y), r, ok)
		}
	}
}

// The pair that P3.3 asks for is the only one with x = qy + r whose r is smaller than y and has x's sign or is 0.
func TestQuoPair(t *testing.T) {
	for _, x := range samples() {
		for _, y := range samples() {
			if nat.Len(y.Mag) == 0 {
				continue
			}
			q, r, ok := whole.Quo(x, y)
			back := widen(q).times(widen(y)).plus(widen(r))
			if !ok || back != widen(x) || nat.Cmp(r.Mag, y.Mag) >= 0 || len(r.Mag) > 0 && r.Neg != x.Neg {
				t.Errorf("Quo(%v, %v) = %v, %v, %v", x, y, q, r, ok)
			}
			wantInt(t, "the quotient's struct", q, widen(q).number())
			wantInt(t, "the struct of what is left", r, widen(r).number())
		}
	}
}

// These calls have no limit: numbers may have more limbs than nat.Shl makes.
func TestBeyondMaxLimbs(t *testing.T) {
	size := make(list, api.MaxLimbs+2)
	size[0], size[len(size)-1] = 3, 8
	x := api.Int{Neg: true, Mag: size}
	y := whole.Neg(x)
	if y.Neg || len(y.Mag) != len(size) || whole.Cmp(x, y) != -1 || whole.Cmp(y, x) != 1 {
		t.Errorf("Neg or Cmp of a number with more than MaxLimbs limbs")
	}
	if s := whole.Sub(x, y); !s.Neg || len(s.Mag) != len(size) || s.Mag[0] != 6 || s.Mag[len(size)-1] != 16 {
		t.Errorf("Sub of numbers with more than MaxLimbs limbs: %v, %d limbs", s.Neg, len(s.Mag))
	}
	wantInt(t, "x + Neg(x)", whole.Add(x, y), api.Int{})
	product := whole.Mul(x, at(-2))
	wantInt(t, "-2x = 2 Neg(x)", product, whole.Add(y, y))
	q, r, ok := whole.Quo(product, x)
	wantInt(t, "-2x by x", q, at(-2))
	wantInt(t, "what that leaves", r, api.Int{})
	if _, small := whole.Int64(x); small || !ok {
		t.Errorf("Int64 or Quo of a number with more than MaxLimbs limbs: %v, %v", small, ok)
	}
	if _, small := whole.Uint64(y); small {
		t.Errorf("Uint64 of a number with more than MaxLimbs limbs says true")
	}
}
