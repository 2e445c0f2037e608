package order_test

import (
	"slices"
	"testing"

	"crucible/order"
)

// someLists are short ones, all of them, and longer ones of every shape and length.
func (r *rule) someLists() [][]card {
	out := r.lists()
	for n := 70; n < 300; n += 3 {
		out = append(out, r.shapes(n)...)
	}
	for _, n := range []int{511, 512, 513, 1024, 4095, 4097} {
		out = append(out, r.shapes(n)...)
	}
	return out
}

// P12.8: Sort and Twice ask at most n times 2 + 2 d, Unique at most n times.
func TestAskedSort(t *testing.T) {
	r := rule{41}
	for _, l := range r.someLists() {
		if t.Failed() {
			break
		}
		n := len(l)
		a := newAsked(l)
		order.Sort(l, a.cmp)
		a.atMost(t, n*(2+2*digits(n)), "Sort of %d", n)
		order.Twice(l, a.cmp)
		a.atMost(t, n*(2+2*digits(n)), "Twice of %d", n)
		order.Unique(l, a.cmp)
		a.atMost(t, n, "Unique of %d", n)
	}
}

// P12.8: Merge asks at most n times, of lists in order and others, of about one length and of very different ones.
func TestAskedMerge(t *testing.T) {
	r := rule{43}
	for _, l := range r.someLists() {
		if t.Failed() {
			break
		}
		a := newAsked(l)
		for _, at := range []int{0, min(1, len(l)), len(l) / 2, r.below(len(l) + 1), len(l)} {
			one, two := l[:at], l[at:]
			order.Merge(one, two, a.cmp)
			a.atMost(t, len(l), "Merge of %d and %d", len(one), len(two))
			one, two = order.Sort(one, byKey), order.Sort(two, byKey)
			order.Merge(one, two, a.cmp)
			a.atMost(t, len(l), "Merge of %d and %d in order", len(one), len(two))
		}
	}
}

// P12.8: Search asks at most 3 + d, wherever x stands, in lists in order and others.
func TestAskedSearch(t *testing.T) {
	r := rule{45}
	for n := range 600 {
		if t.Failed() {
			break
		}
		var keys []int
		for i := range n {
			keys = append(keys, 2*i)
		}
		in := cards(keys...)
		for _, key := range []int{-1, 0, 1, n, n + 1, 2*n - 2, 2*n - 1, 2 * n, r.below(2*n + 1), r.below(2*n + 1)} {
			x := card{key, -1}
			a := newAsked(in, []card{x})
			for _, l := range [][]card{in, cards(r.keys(n, 2*n+1)...), cards(make([]int, n)...)} {
				a = newAsked(l, []card{x})
				order.Search(l, x, a.cmp)
				a.atMost(t, 3+digits(n), "Search of %d in %d", key, n)
			}
		}
	}
	const n = 1 << 20
	l := make([]int, n)
	for i := range l {
		l[i] = 2 * i
	}
	for range 2000 {
		asks := 0
		order.Search(l, r.below(2*n+2)-1, func(a, b int) int { asks++; return a - b })
		if asks > 3+digits(n) {
			t.Fatalf("Search in %d: asked %d times", n, asks)
		}
	}
}

// P12.8: Add asks at most 2 + 2 d for each element, Take at most 2 + 2 d; Len asks nothing.
func TestAskedBag(t *testing.T) {
	r := rule{47}
	for _, l := range r.someLists() {
		if t.Failed() {
			break
		}
		a := newAsked(l)
		b := order.New(a.cmp)
		for i, x := range l {
			b.Add(x)
			a.atMost(t, 2+2*digits(i+1), "Add to %d", i)
		}
		b.Len()
		b.Add()
		b.All()
		a.atMost(t, 0, "Len, Add of nothing and All of %d", len(l))
		for n := len(l); n >= 0; n-- {
			b.Take()
			a.atMost(t, 2+2*digits(n), "Take of %d", n)
		}
	}
}

// P12.8: several elements at once, into bags that are empty or full.
func TestAskedAtOnce(t *testing.T) {
	r := rule{49}
	for _, l := range r.someLists() {
		if t.Failed() {
			break
		}
		at := []int{0, len(l) / 2, r.below(len(l) + 1)}[r.below(3)]
		a := newAsked(l)
		b := order.New(a.cmp)
		b.Add(l[:at]...)
		a.atMost(t, at*(2+2*digits(at)), "Add of %d", at)
		b.Add(l[at:]...)
		a.atMost(t, (len(l)-at)*(2+2*digits(len(l))), "Add of %d to %d", len(l)-at, at)
		told(t, b)
		if a.wrong != nil {
			t.Errorf("All of %d: asked about %v", len(l), a.wrong)
		}
	}
}

// P12.8: in bags that are added to and taken from by turns; what was taken is not asked about any more.
func TestAskedByTurns(t *testing.T) {
	r := rule{51}
	for range 200 {
		a := newAsked()
		b := order.New(a.cmp)
		for i := range 300 {
			if r.below(3) > 0 {
				x := card{r.below(50), i + 1}
				a.known[x]++
				b.Add(x)
				a.atMost(t, 2+2*digits(b.Len()), "Add to %d", b.Len()-1)
				continue
			}
			n := b.Len()
			x, _ := b.Take()
			a.atMost(t, 2+2*digits(n), "Take of %d", n)
			delete(a.known, x)
		}
		if t.Failed() {
			break
		}
	}
}

// cmp is asked about x and elements: x is no element, and nothing else is either, whether the list is in order or not.
func TestAskedAboutX(t *testing.T) {
	r := rule{53}
	for _, l := range r.lists() {
		if t.Failed() {
			break
		}
		x := card{r.below(60) - 1, -1}
		a := newAsked(l, []card{x})
		order.Search(l, x, a.cmp)
		order.Search(slices.Clone(l)[:len(l)/2], x, a.cmp)
		a.atMost(t, 2*(3+digits(len(l))), "Search in %v", l)
	}
}
