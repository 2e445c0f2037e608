package decimal_test

import (
	"slices"
	"strings"
	"sync"
	"testing"

	"crucible/api"
	"crucible/decimal"
	"crucible/ieee"
)

// any are decimal numbers and others, of all lengths, with all Points.
func (r *rule) any() api.Digits {
	text := []byte(r.text(int(r.next() % 30)))
	switch r.next() % 6 {
	case 0:
		text = []byte(strings.Repeat("0", int(r.next()%20)) + string(text))
	case 1:
		text = append(text, strings.Repeat("0", int(r.next()%20))...)
	case 2:
		text = append(text, byte(r.next()))
	case 3:
		text = []byte(r.text(int(r.next() % 1500)))
	}
	point := int(r.next())
	if r.next()%3 > 0 {
		point = int(r.next()%700) - 350
	}
	return api.Digits{Neg: r.next()%2 == 0, Text: string(text), Point: point}
}

// isDecimal: has the text no byte but digits?
func isDecimal(text string) bool { return strings.Trim(text, "0123456789") == "" }

type answer struct {
	bits   uint64
	digits api.Digits
	n      int
	ok     bool
}

func ask[T ieee.Bits](numbers []api.Digits, seed uint64) []answer {
	var out []answer
	for i, d := range numbers {
		x, ok := decimal.Read[T](d)
		out = append(out, answer{bits: uint64(x), ok: ok})
		back, ok := decimal.Exact(x + T(seed*uint64(i)))
		out = append(out, answer{digits: back, ok: ok})
		n, ok := decimal.Cmp(d, numbers[(i*7+3)%len(numbers)])
		out = append(out, answer{n: n, ok: ok})
	}
	return out
}

func same[T ieee.Bits](t *testing.T) {
	r := rule{71}
	var numbers []api.Digits
	for range 500 {
		numbers = append(numbers, r.any())
	}
	first := ask[T](numbers, 0x9e3779b97f4a7c15)
	ask[T](numbers[100:], 3)
	if !slices.Equal(first, ask[T](numbers, 0x9e3779b97f4a7c15)) {
		t.Errorf("what was asked before makes a difference")
	}
	answers := make([][]answer, 4)
	var wait sync.WaitGroup
	for i := range answers {
		wait.Go(func() { answers[i] = ask[T](numbers, 0x9e3779b97f4a7c15) })
	}
	wait.Wait()
	for _, got := range answers {
		if !slices.Equal(got, first) {
			t.Errorf("what is asked at the same time makes a difference")
		}
	}
}

// R1, R5: anything at all, in any order, and several at a time.
func TestSame(t *testing.T) {
	widths(t, same[uint16], same[uint32], same[uint64], same[own16], same[own32], same[own64])
}

// P7.1, P7.3, R2: true just where there is a decimal number, and nothing beside a false.
func TestTrueJustWhereDecimal(t *testing.T) {
	r := rule{81}
	for range 5000 {
		a, b := r.any(), r.any()
		x, ok := decimal.Read[uint64](a)
		if ok != isDecimal(a.Text) || !ok && x != 0 {
			t.Errorf("Read(%s) = %#x, %v", show(a), x, ok)
		}
		n, ok := decimal.Cmp(a, b)
		if ok != (isDecimal(a.Text) && isDecimal(b.Text)) || !ok && n != 0 {
			t.Errorf("Cmp(%s, %s) = %d, %v", show(a), show(b), n, ok)
		}
	}
}

// P7.1, P7.3, R1: some million digits, of which the last one may tell.
func TestLongTexts(t *testing.T) {
	for _, n := range []int{1 << 20, 1 << 24} {
		ones, noughts := strings.Repeat("1", n), strings.Repeat("0", n)
		wantRead[uint64](t, plus(ones, 1), 0x3ff1c71c71c71c72)
		wantRead[uint64](t, plus(ones, n), 0x7ff0000000000000)
		wantRead[uint64](t, plus(ones, -n), 0)
		wantRead[uint64](t, plus(noughts+"5"+noughts, n+1), 0x4014000000000000)
		wantRead[uint32](t, plus("16777217"+noughts+"1", 8), 0x4b800001)
		wantRead[uint32](t, plus("16777217"+noughts, 8), 0x4b800000)
		wantCmp(t, plus(ones, 1), plus(ones+"1", 1), -1)
		if x, ok := decimal.Read[uint64](plus(ones+"x", 1)); x != 0 || ok {
			t.Errorf("Read of %d digits and an x = %#x, %v", n, x, ok)
		}
	}
}
