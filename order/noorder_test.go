package order_test

import (
	"slices"
	"testing"

	"crucible/order"
)

// noOrders are functions that are no order: they ask for everything at once, go in a ring, forget what they said.
func (r *rule) noOrders() map[string]func(a, b card) int {
	n := 0
	return map[string]func(a, b card) int{
		"below":    func(a, b card) int { return -1 },
		"above":    func(a, b card) int { return 1 },
		"alike":    func(a, b card) int { return 0 },
		"ring":     func(a, b card) int { return (a.key-b.key+4)%3 - 1 },
		"not less": func(a, b card) int { return max(0, a.key-b.key) },
		"marks":    func(a, b card) int { return a.key - b.mark },
		"turns":    func(a, b card) int { n++; return n%3 - 1 },
		"any":      func(a, b card) int { return int(r.next()%3) - 1 },
	}
}

// What is no order: the calls end, and Sort, Merge and All tell just the elements that there are.
func TestNoOrder(t *testing.T) {
	r := rule{61}
	for _, l := range r.lists() {
		if t.Failed() {
			break
		}
		for name, cmp := range r.noOrders() {
			if got := order.Sort(l, cmp); !sameElements(got, l) {
				t.Errorf("%s: Sort(%v) = %v", name, l, got)
			}
			at := r.below(len(l) + 1)
			if got := order.Merge(l[:at], l[at:], cmp); !sameElements(got, l) {
				t.Errorf("%s: Merge(%v, %v) = %v", name, l[:at], l[at:], got)
			}
			if n, _ := order.Search(l, card{r.below(60), -1}, cmp); n < 0 || n > len(l) {
				t.Errorf("%s: Search = %d", name, n)
			}
			if n := order.Twice(l, cmp); n < -1 || n >= len(l) {
				t.Errorf("%s: Twice = %d", name, n)
			}
			if got := order.Unique(l, cmp); len(got) > len(l) || len(l) > 0 && got[0] != l[0] {
				t.Errorf("%s: Unique = %v", name, got)
			}
		}
	}
}

// What is no order: a bag tells and gives away just what came into it.
func TestNoOrderBag(t *testing.T) {
	r := rule{63}
	for _, l := range r.lists() {
		if t.Failed() {
			break
		}
		for name, cmp := range r.noOrders() {
			b := order.New(cmp)
			at := r.below(len(l) + 1)
			b.Add(l[:at]...)
			var taken []card
			for range r.below(at + 1) {
				x, _ := b.Take()
				taken = append(taken, x)
			}
			b.Add(l[at:]...)
			if got := told(t, b); !sameElements(slices.Concat(taken, got), l) || b.Len() != len(got) {
				t.Errorf("%s: of %v, without %v, All tells %v", name, l, taken, got)
			}
			if got := emptied(t, b); !sameElements(slices.Concat(taken, got), l) {
				t.Errorf("%s: of %v, without %v, there are taken %v", name, l, taken, got)
			}
		}
	}
}

// R1: an order that changes the bag it is asked for; that the calls end and none panics is all that is held here.
func TestOrderThatMeddles(t *testing.T) {
	for kind := range 3 {
		for n := range 40 {
			var b *order.Bag[int]
			left := 0
			b = order.New(func(x, y int) int {
				if left--; left == 0 {
					switch kind {
					case 0:
						b.Take()
					case 1:
						b.Add(x, y)
					case 2:
						told(t, b)
					}
				}
				return x - y
			})
			for i := range n {
				left = i % 5
				b.Add(n - i)
			}
			for i := range n {
				left = 1 + i%4
				b.Take()
			}
		}
	}
}
