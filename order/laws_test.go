package order_test

import (
	"slices"
	"testing"

	"crucible/order"
)

// lists are short ones, all of them, and longer ones of every shape.
func (r *rule) lists() [][]card {
	var out [][]card
	for _, keys := range allKeys(3, 6) {
		out = append(out, cards(keys...))
	}
	for n := 7; n < 70; n++ {
		out = append(out, r.shapes(n)...)
	}
	return out
}

// P12.7: Sort of what Sort answers is that; its elements are those of the list, none below one ahead of it.
func TestSortAgain(t *testing.T) {
	r := rule{21}
	for _, l := range r.lists() {
		if t.Failed() {
			break
		}
		once := order.Sort(l, byKey)
		if twice := order.Sort(once, byKey); !slices.Equal(once, twice) {
			t.Errorf("Sort of %v is %v", once, twice)
		}
		if !inOrder(once, byKey) || !sameElements(once, l) {
			t.Errorf("Sort(%v) = %v", l, once)
		}
	}
}

// P12.7: Merge of two sorted lists is Sort of the one behind the other.
func TestMergeIsSort(t *testing.T) {
	r := rule{23}
	for _, l := range r.lists() {
		if t.Failed() {
			break
		}
		cut := r.below(len(l) + 1)
		for _, at := range []int{0, cut, len(l)} {
			merged := order.Merge(order.Sort(l[:at], byKey), order.Sort(l[at:], byKey), byKey)
			if want := order.Sort(l, byKey); !slices.Equal(merged, want) {
				t.Errorf("%v and %v: merged %v, sorted %v", l[:at], l[at:], merged, want)
			}
		}
	}
}

// P12.7: Unique of a sorted list has each class of alike elements once, by its first.
func TestUniqueIsClasses(t *testing.T) {
	r := rule{25}
	for _, l := range r.lists() {
		if t.Failed() {
			break
		}
		firsts := map[int]card{}
		for _, x := range slices.Backward(l) {
			firsts[x.key] = x
		}
		got := order.Unique(order.Sort(l, byKey), byKey)
		for _, x := range got {
			if firsts[x.key] != x {
				t.Errorf("Unique of %v sorted is %v", l, got)
			}
		}
		if len(got) != len(firsts) || !inOrder(got, byKey) {
			t.Errorf("Unique of %v sorted is %v", l, got)
		}
	}
}

// P12.7: what is taken out of a bag until it is empty is Sort of what was added; so is what All tells.
func TestTakenIsSorted(t *testing.T) {
	r := rule{27}
	for _, l := range r.lists() {
		if t.Failed() {
			break
		}
		want := order.Sort(l, byKey)
		b := order.New(byKey)
		b.Add(l...)
		if got := told(t, b); !slices.Equal(got, want) {
			t.Errorf("%v: told %v, sorted %v", l, got, want)
		}
		if got := emptied(t, b); !slices.Equal(got, want) {
			t.Errorf("%v: taken %v, sorted %v", l, got, want)
		}
		// A bag that was emptied is as a new one.
		b.Add(l...)
		if got := emptied(t, b); !slices.Equal(got, want) {
			t.Errorf("%v again: taken %v, sorted %v", l, got, want)
		}
	}
}

// P12.7: Search's number is how many elements are below x, as far as the list goes.
func TestSearchIsCount(t *testing.T) {
	r := rule{29}
	for _, l := range r.lists() {
		if t.Failed() {
			break
		}
		in := order.Sort(l, byKey)
		for _, x := range []card{{-1, 0}, {r.below(60), 0}, {1 << 50, 0}} {
			for _, n := range []int{0, r.below(len(in) + 1), len(in)} {
				if at, ok := order.Search(in[:n], x, byKey); at != belowOf(in[:n], x, byKey) || ok != slices.Contains(keysOf(in[:n]), x.key) {
					t.Errorf("Search(%v, %v) = %d, %v", in[:n], x, at, ok)
				}
			}
		}
		for _, x := range l {
			at, ok := order.Search(in, x, byKey)
			if first := slices.Index(keysOf(in), x.key); at != first || !ok {
				t.Errorf("Search(%v, %v) = %d, %v", in, x, at, ok)
			}
		}
	}
}

// P12.3, P12.7: there is none twice just where Unique of the sorted list has them all.
func TestTwiceIsUnique(t *testing.T) {
	r := rule{30}
	for _, l := range r.lists() {
		if t.Failed() {
			break
		}
		n := len(order.Unique(order.Sort(l, byKey), byKey))
		if at := order.Twice(l, byKey); (at < 0) != (n == len(l)) {
			t.Errorf("Twice(%v) = %d, of %d classes", l, at, n)
		} else if at >= 0 && order.Twice(l[:at], byKey) >= 0 {
			t.Errorf("Twice(%v) = %d, but there is one ahead", l, at)
		}
	}
}
