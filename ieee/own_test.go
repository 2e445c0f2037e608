package ieee_test

import (
	"fmt"
	"math"
	"slices"
	"testing"

	"crucible/api"
	"crucible/ieee"
)

// roomy is a list with the given limbs and spare room that is not nought.
func roomy(limbs ...uint32) list {
	room := append(slices.Clone(limbs), 77, 78, 79, 80)
	return room[:len(limbs)]
}

func scribble(a list) {
	a = a[:cap(a)]
	for i := range a {
		a[i] ^= 0xa5a5a5a5
	}
}

// answers are what the calls that take a list answer of it.
func answers[T ieee.Bits](m list) string {
	out := ""
	for _, neg := range []bool{false, true} {
		for _, e := range []int{math.MinInt, -200, -24, 0, 5, math.MaxInt} {
			out += fmt.Sprint(ieee.Round[T](neg, m, e, false), ieee.Round[T](neg, m, e, true), " ")
		}
		x, ok := ieee.From[T](api.Int{Neg: neg, Mag: m})
		out += fmt.Sprint(x, ok, " ")
	}
	return out
}

func keeps[T ieee.Bits](t *testing.T) {
	for _, m := range []list{nil, {}, {0}, {0, 0, 0}, {1}, {5, 0}, {3, 4}, {3, 4, 5}, {1, 0, 0, 1 << 31}, {1<<32 - 1, 1<<32 - 1, 1<<32 - 1, 0, 0}, {1, 2, 3, 4, 5, 6, 7, 8, 9}} {
		in := roomy(m...)
		full := slices.Clone(in[:cap(in)])
		first := answers[T](in)
		if !slices.Equal(in[:cap(in)], full) {
			t.Errorf("%v is changed, or its spare room", m)
		}
		if plain := answers[T](m); first != plain {
			t.Errorf("the spare room of %v makes a difference: %q, want %q", m, first, plain)
		}
		scribble(in)
		answers[T](in)
		if again := answers[T](m); again != first {
			t.Errorf("%v, asked again: %q, want %q", m, again, first)
		}
	}
	if got, want := answers[T](list{}), answers[T](nil); got != want {
		t.Errorf("empty and nil: %q, %q", got, want)
	}
}

// R4: what is handed in stays as it was, its spare room too; empty and nil mean the same.
func TestKeepsWhatIsHandedIn(t *testing.T) {
	widths(t, keeps[uint16], keeps[uint32], keeps[uint64], keeps[own16], keeps[own32], keeps[own64])
}

func ownLists[T ieee.Bits](t *testing.T) {
	for _, x := range few[T]() {
		first, ok := ieee.Int(x)
		second, _ := ieee.Int(x)
		want := slices.Clone(second.Mag)
		scribble(first.Mag)
		third, again := ieee.Int(x)
		if !slices.Equal(second.Mag, want) || !slices.Equal(third.Mag, want) || again != ok {
			t.Errorf("answers of Int(%#x) share memory", x)
		}
		if !ok && (first.Neg || len(first.Mag) > 0) {
			t.Errorf("Int(%#x) = %v beside false", x, first)
		}
	}
}

// R4: answers share no memory with one another. R2: beside a false all else is zero.
func TestOwnLists(t *testing.T) {
	widths(t, ownLists[uint16], ownLists[uint32], ownLists[uint64], ownLists[own16], ownLists[own32], ownLists[own64])
}

func anything[T ieee.Bits](t *testing.T) {
	r := rule{81}
	for range 3000 {
		x, y := T(r.next()), T(r.next())
		ieee.Class(x)
		ieee.Parts(x)
		ieee.Cmp(x, y)
		ieee.Total(x, y)
		ieee.Next(x)
		ieee.Int(x)
		ieee.To[uint16](x)
		ieee.To[own32](x)
		ieee.To[uint64](x)
		m := r.list(r.below(300))
		e := int(r.next()) >> r.below(64)
		ieee.Round[T](r.below(2) == 0, m, e, r.below(2) == 0)
		ieee.From[T](api.Int{Neg: r.below(2) == 0, Mag: m})
	}
}

// R1: no call panics, every call ends.
func TestAnything(t *testing.T) {
	widths(t, anything[uint16], anything[uint32], anything[uint64], anything[own16], anything[own32], anything[own64])
}
