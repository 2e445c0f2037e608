package order_test

import (
	"cmp"
	"math"
	"slices"
	"strings"
	"testing"

	"crucible/order"
)

// bySize: numbers by how far they are from 0.
func bySize(a, b int) int { return max(a, -a) - max(b, -b) }

// P12.1: the examples of the chapter.
func TestSortKnown(t *testing.T) {
	rows := []struct{ l, want []int }{
		{[]int{3, -1, 2, 1, -2}, []int{-1, 1, 2, -2, 3}},
		{nil, nil},
		{[]int{}, nil},
		{[]int{5}, []int{5}},
		{[]int{2, 1}, []int{1, 2}},
		{[]int{-1, 1}, []int{-1, 1}},
		{[]int{1, -1}, []int{1, -1}},
		{[]int{1, 2, 3, 4}, []int{1, 2, 3, 4}},
		{[]int{4, 3, 2, 1}, []int{1, 2, 3, 4}},
		{[]int{7, -7, 7, -7, 7}, []int{7, -7, 7, -7, 7}},
	}
	for _, r := range rows {
		if got := order.Sort(r.l, bySize); !slices.Equal(got, r.want) {
			t.Errorf("Sort(%v) = %v, want %v", r.l, got, r.want)
		}
	}
}

func sortIs(t *testing.T, l []card) {
	t.Helper()
	want := slices.Clone(l)
	slices.SortStableFunc(want, byKey)
	if got := order.Sort(l, byKey); !slices.Equal(got, want) {
		t.Errorf("Sort(%v) = %v, want %v", l, got, want)
	}
}

// P12.1: all short lists of few keys.
func TestSortShort(t *testing.T) {
	for _, keys := range slices.Concat(allKeys(3, 7), allKeys(6, 5), allKeys(2, 11)) {
		if t.Failed() {
			break
		}
		l := cards(keys...)
		if got, want := order.Sort(l, byKey), sorted(l, byKey); !slices.Equal(got, want) {
			t.Errorf("Sort(%v) = %v, want %v", l, got, want)
		}
	}
}

// P12.1: in order, in the opposite order, alike, in turns, of every length.
func TestSortShapes(t *testing.T) {
	r := rule{1}
	for n := range 200 {
		if t.Failed() {
			break
		}
		for _, l := range r.shapes(n) {
			sortIs(t, l)
		}
	}
	for _, n := range []int{255, 256, 257, 1000, 1023, 1024, 1025, 5000} {
		for _, l := range r.shapes(n) {
			sortIs(t, l)
		}
	}
}

// P12.1: elements of other types, and orders whose numbers are not 1 and -1.
func TestSortOthers(t *testing.T) {
	words := strings.Fields("the quick brown fox jumps over the lazy dog")
	byLength := func(a, b string) int { return (len(a) - len(b)) * 1000000 }
	if got := order.Sort(words, byLength); !slices.Equal(got, strings.Fields("the fox the dog over lazy quick brown jumps")) {
		t.Errorf("words by length: %v", got)
	}
	falling := func(a, b string) int { return cmp.Compare(b, a) }
	if got := order.Sort(words, falling); !slices.Equal(got, strings.Fields("the the quick over lazy jumps fox dog brown")) {
		t.Errorf("words falling: %v", got)
	}
	utmost := func(a, b float64) int {
		switch {
		case a < b:
			return math.MinInt
		case a > b:
			return math.MaxInt
		}
		return 0
	}
	if got := order.Sort([]float64{2.5, -1, math.Inf(-1), 2, math.Inf(1)}, utmost); !slices.Equal(got, []float64{math.Inf(-1), -1, 2, 2.5, math.Inf(1)}) {
		t.Errorf("floats: %v", got)
	}
	if got := order.Sort([][]int{{3}, {1, 2}, {0}, nil}, slices.Compare); len(got) != 4 || got[0] != nil || got[1][0] != 0 || got[2][1] != 2 || got[3][0] != 3 {
		t.Errorf("lists: %v", got)
	}
	if got := order.Sort(make([]struct{}, 9), func(a, b struct{}) int { return 0 }); len(got) != 9 {
		t.Errorf("nine of nothing are %d", len(got))
	}
	mixed := func(a, b any) int { return cmp.Compare(a.(int), b.(int)) }
	if got := order.Sort([]any{2, 0, 1}, mixed); !slices.Equal(got, []any{0, 1, 2}) {
		t.Errorf("any: %v", got)
	}
	calls := []func() int{func() int { return 5 }, func() int { return 4 }}
	if got := order.Sort(calls, func(a, b func() int) int { return a() - b() }); got[0]() != 4 || got[1]() != 5 {
		t.Errorf("functions are not in order")
	}
}

// An order that is not there: nothing, of any list.
func TestSortWithout(t *testing.T) {
	for _, n := range []int{0, 1, 2, 3, 100} {
		if got := order.Sort(upTo(n), nil); len(got) != 0 {
			t.Errorf("%d elements without an order are %v", n, got)
		}
	}
}
