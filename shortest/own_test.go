package shortest_test

import (
	"slices"
	"sync"
	"testing"

	"crucible/api"
	"crucible/ieee"
	"crucible/shortest"
)

type answer struct {
	digits api.Digits
	ok     bool
}

func ask[T ieee.Bits](xs []T) []answer {
	var out []answer
	for _, x := range xs {
		d, ok := shortest.Digits(x)
		out = append(out, answer{d, ok})
	}
	return out
}

// all16 are all patterns of 16 bits, spread over the width of T.
func all16[T ieee.Bits]() []T {
	k := kindOf[T]()
	width := 1 + k.exponent + k.fraction
	var out []T
	for high := range uint64(1 << 16) {
		if width > 16 && high%7 != 0 {
			continue
		}
		out = append(out, T(high<<(width-16)), T(high<<(width-16)+1<<(width-16)-1))
	}
	return out
}

func same[T ieee.Bits](t *testing.T) {
	xs := all16[T]()
	first := ask(xs)
	slices.Reverse(xs)
	again := ask(xs)
	slices.Reverse(again)
	if !slices.Equal(first, again) {
		t.Errorf("what was asked before makes a difference")
	}
	slices.Reverse(xs)
	answers := make([][]answer, 4)
	var wait sync.WaitGroup
	for i := range answers {
		wait.Go(func() { answers[i] = ask(xs[:2000]) })
	}
	wait.Wait()
	for _, got := range answers {
		if !slices.Equal(got, first[:2000]) {
			t.Errorf("what is asked at the same time makes a difference")
		}
	}
}

// R1, R5: any pattern at all, in any order, and several at a time.
func TestSame(t *testing.T) {
	widths(t, same[uint16], same[uint32], same[uint64], same[own16], same[own32], same[own64])
}

// R2: beside a false everything else is zero.
func TestNothingBesideFalse(t *testing.T) {
	for _, a := range slices.Concat(ask(all16[uint16]()), ask(all16[own32]()), ask(all16[uint64]())) {
		if !a.ok && a.digits != (api.Digits{}) {
			t.Errorf("%v beside a false", a.digits)
		}
	}
}
