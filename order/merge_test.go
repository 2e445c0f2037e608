package order_test

import (
	"slices"
	"testing"

	"crucible/order"
)

// P12.2: the examples of the chapter, and their like.
func TestMergeKnown(t *testing.T) {
	rows := []struct{ a, b, want []int }{
		{[]int{1, -2, 4}, []int{-1, 2, 2, 5}, []int{1, -1, -2, 2, 2, 4, 5}},
		{[]int{3, 1}, []int{2}, []int{2, 3, 1}},
		{nil, nil, nil},
		{[]int{}, []int{}, nil},
		{nil, []int{1, 2}, []int{1, 2}},
		{[]int{1, 2}, nil, []int{1, 2}},
		{nil, []int{2, 1}, []int{2, 1}},
		{[]int{2, 1}, nil, []int{2, 1}},
		{[]int{2}, []int{-2}, []int{2, -2}},
		{[]int{-2}, []int{2}, []int{-2, 2}},
		{[]int{1, 2}, []int{3, 4}, []int{1, 2, 3, 4}},
		{[]int{3, 4}, []int{1, 2}, []int{1, 2, 3, 4}},
		{[]int{5, 5, 5}, []int{-5, -5}, []int{5, 5, 5, -5, -5}},
		{[]int{2}, []int{3, 1}, []int{2, 3, 1}},
		{[]int{2}, []int{1, 3, 0}, []int{1, 2, 3, 0}},
		{[]int{9, 0, 9}, []int{5, 4, 1}, []int{5, 4, 1, 9, 0, 9}},
	}
	for _, r := range rows {
		if got := order.Merge(r.a, r.b, bySize); !slices.Equal(got, r.want) {
			t.Errorf("Merge(%v, %v) = %v, want %v", r.a, r.b, got, r.want)
		}
	}
}

func mergeIs(t *testing.T, a, b []card) {
	t.Helper()
	if got, want := order.Merge(a, b, byKey), mergedOf(a, b, byKey); !slices.Equal(got, want) {
		t.Errorf("Merge(%v, %v) = %v, want %v", a, b, got, want)
	}
}

// P12.2: all pairs of short lists, in order or not.
func TestMergeShort(t *testing.T) {
	keys := allKeys(3, 4)
	for _, a := range keys {
		if t.Failed() {
			break
		}
		for _, b := range keys {
			mergeIs(t, cards(a...), cardsFrom(100, b...))
		}
	}
}

// P12.2: longer ones, of any two lengths.
func TestMergeLonger(t *testing.T) {
	r := rule{3}
	for i := range 4000 {
		if t.Failed() {
			break
		}
		k := 1 + r.below(60)
		a, b := cards(r.keys(r.below(50), k)...), cardsFrom(1000, r.keys(r.below(50), k)...)
		mergeIs(t, a, b)
		if i%2 == 0 {
			a, b = sorted(a, byKey), sorted(b, byKey)
			mergeIs(t, a, b)
			if got := order.Merge(a, b, byKey); !inOrder(got, byKey) {
				t.Errorf("Merge(%v, %v) is not in order: %v", a, b, got)
			}
		}
	}
}

// P12.2: a list with itself.
func TestMergeItself(t *testing.T) {
	l := cards(0, 1, 1, 2)
	want := []card{{0, 1}, {0, 1}, {1, 2}, {1, 3}, {1, 2}, {1, 3}, {2, 4}, {2, 4}}
	if got := order.Merge(l, l, byKey); !slices.Equal(got, want) {
		t.Errorf("a list merged with itself is %v", got)
	}
}

// P12.2: the examples of the chapter, and their like.
func TestUniqueKnown(t *testing.T) {
	rows := []struct{ l, want []int }{
		{[]int{1, -1, 2, 1, 1}, []int{1, 2, 1}},
		{nil, nil},
		{[]int{}, nil},
		{[]int{0}, []int{0}},
		{[]int{-4, 4, 4, -4}, []int{-4}},
		{[]int{1, 2, 3}, []int{1, 2, 3}},
		{[]int{3, 2, 1}, []int{3, 2, 1}},
		{[]int{1, 2, -1, -2, 1, 2}, []int{1, 2, -1, -2, 1, 2}},
		{[]int{1, 2, -2, -2, 3, -3}, []int{1, 2, 3}},
		{[]int{0, 0, 1}, []int{0, 1}},
		{[]int{1, 0, 0}, []int{1, 0}},
	}
	for _, r := range rows {
		if got := order.Unique(r.l, bySize); !slices.Equal(got, r.want) {
			t.Errorf("Unique(%v) = %v, want %v", r.l, got, r.want)
		}
	}
}

// P12.2: all short lists of few keys, and longer ones.
func TestUnique(t *testing.T) {
	r := rule{5}
	lists := slices.Concat(allKeys(3, 7), allKeys(2, 11))
	for range 3000 {
		lists = append(lists, r.keys(r.below(60), 1+r.below(5)))
	}
	for _, keys := range lists {
		if t.Failed() {
			break
		}
		l := cards(keys...)
		if got, want := order.Unique(l, byKey), uniqueOf(l, byKey); !slices.Equal(got, want) {
			t.Errorf("Unique(%v) = %v, want %v", l, got, want)
		}
	}
}

// P12.2: the one right ahead counts as it stands in the list, not the last one that was told; an order that is none shows it.
func TestUniqueRightAhead(t *testing.T) {
	near := func(a, b int) int {
		if d := a - b; d < -1 || d > 1 {
			return d
		}
		return 0
	}
	if got := order.Unique([]int{1, 2, 3, 4, 9, 8, 5}, near); !slices.Equal(got, []int{1, 9, 5}) {
		t.Errorf("Unique is %v", got)
	}
}

// An order that is not there: nothing, of any lists.
func TestMergeWithout(t *testing.T) {
	for _, n := range []int{0, 1, 2, 100} {
		for _, m := range []int{0, 1, 2, 100} {
			if got := order.Merge(upTo(n), upTo(m), nil); len(got) != 0 {
				t.Errorf("%d and %d elements without an order are %v", n, m, got)
			}
		}
		if got := order.Unique(upTo(n), nil); len(got) != 0 {
			t.Errorf("%d elements without an order are %v", n, got)
		}
	}
}
