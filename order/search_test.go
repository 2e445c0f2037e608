package order_test

import (
	"slices"
	"testing"

	"crucible/order"
)

// P12.3: the examples of the chapter, and their like.
func TestSearchKnown(t *testing.T) {
	l := []int{-1, 2, -2, 5}
	rows := []struct {
		l    []int
		x, n int
		ok   bool
	}{
		{l, 2, 1, true}, {l, -2, 1, true}, {l, 3, 3, false}, {l, 9, 4, false}, {l, 0, 0, false}, {l, 1, 0, true}, {l, -5, 3, true}, {l, 6, 4, false},
		{nil, 1, 0, false}, {[]int{}, 0, 0, false},
		{[]int{3}, 2, 0, false}, {[]int{3}, -3, 0, true}, {[]int{3}, 4, 1, false},
		{[]int{4, -4, 4, -4}, 4, 0, true}, {[]int{4, -4, 4, -4}, 3, 0, false}, {[]int{4, -4, 4, -4}, 5, 4, false},
		{[]int{0, 0, 1, 1, 1}, 1, 2, true}, {[]int{0, 0, 1, 1, 1}, 0, 0, true},
	}
	for _, r := range rows {
		if n, ok := order.Search(r.l, r.x, bySize); n != r.n || ok != r.ok {
			t.Errorf("Search(%v, %d) = %d, %v, want %d, %v", r.l, r.x, n, ok, r.n, r.ok)
		}
	}
}

// searchIs holds Search against its words: in a list in order all of them, in another one those that hold there.
func searchIs(t *testing.T, l []card, key int) {
	t.Helper()
	x := card{key, -1}
	n, ok := order.Search(l, x, byKey)
	if n < 0 || n > len(l) || ok != (n < len(l) && l[n].key == key) {
		t.Errorf("Search(%v, %d) = %d, %v", l, key, n, ok)
	}
	if !inOrder(l, byKey) {
		return
	}
	if want := belowOf(l, x, byKey); n != want || ok != slices.Contains(keysOf(l), key) {
		t.Errorf("Search(%v, %d) = %d, %v, want %d", l, key, n, ok, want)
	}
}

// P12.3: all short lists of few keys, in order and not; x below, between, at and above them.
func TestSearchShort(t *testing.T) {
	for _, keys := range slices.Concat(allKeys(3, 7), allKeys(5, 5)) {
		if t.Failed() {
			break
		}
		for key := -1; key <= 5; key++ {
			searchIs(t, cards(keys...), key)
			searchIs(t, sorted(cards(keys...), byKey), key)
		}
	}
}

// P12.3: lists of every length, each place in them and between them.
func TestSearchLonger(t *testing.T) {
	for n := range 130 {
		if t.Failed() {
			break
		}
		for _, each := range []int{1, 3} {
			var keys []int
			for i := range n {
				keys = append(keys, i/each*2)
			}
			for key := -1; key <= 2*(n/each)+1; key++ {
				searchIs(t, cards(keys...), key)
			}
		}
	}
	r := rule{7}
	for range 3000 {
		if t.Failed() {
			break
		}
		l := cards(r.keys(r.below(80), 1+r.below(80))...)
		searchIs(t, l, r.below(82)-1)
		searchIs(t, order.Sort(l, byKey), r.below(82)-1)
	}
}

// P12.3: the examples of the chapter, and their like.
func TestTwiceKnown(t *testing.T) {
	rows := []struct {
		l    []int
		want int
	}{
		{[]int{3, 1, 2, -1, -3}, 3}, {[]int{1, 2}, -1}, {nil, -1}, {[]int{}, -1}, {[]int{1}, -1}, {[]int{1, 1}, 1}, {[]int{1, -1}, 1},
		{[]int{1, 2, 3, 4, 5, 6, 7, 8, 9, 1}, 9}, {[]int{9, 8, 7, 6, 5, 4, 3, 2, 1, -9}, 9}, {[]int{0, 0, 0, 0}, 1},
		{[]int{5, 1, 2, 2, 1, 5}, 3}, {[]int{5, 1, 2, 5, 2, 1}, 3}, {[]int{1, 2, 3, 3, 2, 1, 0}, 3}, {[]int{4, 3, 2, 1, 0}, -1},
	}
	for _, r := range rows {
		if got := order.Twice(r.l, bySize); got != r.want {
			t.Errorf("Twice(%v) = %d, want %d", r.l, got, r.want)
		}
	}
}

// P12.3: all short lists, and longer ones with few alike.
func TestTwice(t *testing.T) {
	r := rule{9}
	lists := slices.Concat(allKeys(5, 5), allKeys(3, 6))
	for range 3000 {
		n := r.below(70)
		lists = append(lists, r.keys(n, n*n/2+1))
	}
	none := 0
	for _, keys := range lists {
		if t.Failed() {
			break
		}
		l := cards(keys...)
		want := twiceOf(l, byKey)
		if got := order.Twice(l, byKey); got != want {
			t.Errorf("Twice(%v) = %d, want %d", l, got, want)
		}
		if want < 0 && len(l) > 1 {
			none++
		}
	}
	if none < 100 {
		t.Errorf("only %d lists with none", none)
	}
}

// P12.3: the first alike one stands far behind, with one pair or with another pair that ends later.
func TestTwiceFar(t *testing.T) {
	for n := 2; n < 120; n++ {
		if t.Failed() {
			break
		}
		for at := range n - 1 {
			keys := upTo(n)
			keys[n-1] = at
			if got := order.Twice(cards(keys...), byKey); got != n-1 {
				t.Errorf("Twice(%v) = %d", keys, got)
			}
			keys = append(keys, at, 0, n-2)
			if got := order.Twice(cards(keys...), byKey); got != n-1 {
				t.Errorf("Twice(%v) = %d", keys, got)
			}
		}
		if got := order.Twice(cards(upTo(n)...), byKey); got != -1 {
			t.Errorf("Twice of %d different ones = %d", n, got)
		}
	}
}

// An order that is not there: nothing is found.
func TestSearchWithout(t *testing.T) {
	for _, n := range []int{0, 1, 2, 100} {
		for _, x := range []int{-1, 0, 50, 200} {
			if at, ok := order.Search(upTo(n), x, nil); at != 0 || ok {
				t.Errorf("Search in %d without an order = %d, %v", n, at, ok)
			}
		}
		if got := order.Twice(make([]int, n), nil); got != -1 {
			t.Errorf("Twice of %d without an order = %d", n, got)
		}
	}
}
