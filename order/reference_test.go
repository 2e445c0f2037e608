package order_test

import (
	"fmt"
	"math/bits"
	"slices"
	"testing"

	"crucible/order"
)

// card is an element: cards of one key are alike, and told apart by their marks, which are never 0.
type card struct{ key, mark int }

func byKey(a, b card) int { return a.key - b.key }

// cards are elements of these keys, marked from 1 on.
func cards(keys ...int) []card { return cardsFrom(1, keys...) }

func cardsFrom(mark int, keys ...int) []card {
	var out []card
	for i, key := range keys {
		out = append(out, card{key, mark + i})
	}
	return out
}

func keysOf(l []card) []int {
	var out []int
	for _, x := range l {
		out = append(out, x.key)
	}
	return out
}

// sorted is what Sort tells: it takes the first that is not above any other, again and again.
func sorted[T any](l []T, cmp func(a, b T) int) []T {
	var out []T
	rest := slices.Clone(l)
	for len(rest) > 0 {
		at := leastOf(rest, cmp)
		out = append(out, rest[at])
		rest = slices.Delete(rest, at, at+1)
	}
	return out
}

// leastOf is the number of the first element that is not above any other.
func leastOf[T any](l []T, cmp func(a, b T) int) int {
	return slices.IndexFunc(l, func(x T) bool {
		return !slices.ContainsFunc(l, func(y T) bool { return cmp(y, x) < 0 })
	})
}

// mergedOf is what Merge tells, step by step, in the words of P12.2.
func mergedOf[T any](a, b []T, cmp func(a, b T) int) []T {
	var out []T
	for {
		switch {
		case len(a) == 0:
			return append(out, b...)
		case len(b) == 0:
			return append(out, a...)
		case cmp(b[0], a[0]) < 0:
			out, b = append(out, b[0]), b[1:]
		default:
			out, a = append(out, a[0]), a[1:]
		}
	}
}

// uniqueOf is what Unique tells, in the words of P12.2.
func uniqueOf[T any](l []T, cmp func(a, b T) int) []T {
	var out []T
	for i, x := range l {
		if i == 0 || cmp(x, l[i-1]) != 0 {
			out = append(out, x)
		}
	}
	return out
}

// twiceOf is what Twice tells, in the words of P12.3.
func twiceOf[T any](l []T, cmp func(a, b T) int) int {
	return slices.IndexFunc(upTo(len(l)), func(i int) bool {
		return slices.ContainsFunc(l[:i], func(y T) bool { return cmp(l[i], y) == 0 })
	})
}

// belowOf is how many elements are below x.
func belowOf[T any](l []T, x T, cmp func(a, b T) int) int {
	n := 0
	for _, y := range l {
		if cmp(y, x) < 0 {
			n++
		}
	}
	return n
}

func inOrder[T any](l []T, cmp func(a, b T) int) bool {
	for i, x := range l {
		if slices.ContainsFunc(l[:i], func(y T) bool { return cmp(x, y) < 0 }) {
			return false
		}
	}
	return true
}

func upTo(n int) []int {
	out := make([]int, n)
	for i := range out {
		out[i] = i
	}
	return out
}

// all the lists of keys below k with at most n of them.
func allKeys(k, n int) [][]int {
	out := [][]int{nil}
	last := out
	for range n {
		var longer [][]int
		for _, l := range last {
			for key := range k {
				longer = append(longer, append(slices.Clone(l), key))
			}
		}
		out, last = append(out, longer...), longer
	}
	return out
}

// sameElements says whether both have just the same elements, in whatever order.
func sameElements(a, b []card) bool {
	count := map[card]int{}
	for _, x := range a {
		count[x]++
	}
	for _, x := range b {
		count[x]--
	}
	for _, n := range count {
		if n != 0 {
			return false
		}
	}
	return true
}

// asked is an order by keys that counts how often it is asked, and notes what it is asked about beside the cards it knows.
type asked struct {
	known  map[card]int
	n      int
	wrong  []card
	answer func(a, b card) int
}

func newAsked(lists ...[]card) *asked {
	a := &asked{known: map[card]int{}, answer: byKey}
	for _, l := range lists {
		for _, x := range l {
			a.known[x]++
		}
	}
	return a
}

func (a *asked) cmp(x, y card) int {
	a.n++
	for _, z := range []card{x, y} {
		if a.known[z] == 0 {
			a.wrong = append(a.wrong, z)
		}
	}
	return a.answer(x, y)
}

// atMost holds how often the order was asked against what is allowed, and begins to count anew.
func (a *asked) atMost(t *testing.T, most int, what string, args ...any) {
	t.Helper()
	if a.n > most {
		t.Errorf("%s: asked %d times, at most %d allowed", fmt.Sprintf(what, args...), a.n, most)
	}
	if a.wrong != nil {
		t.Errorf("%s: asked about %v", fmt.Sprintf(what, args...), a.wrong)
	}
	a.n, a.wrong = 0, nil
}

func digits(n int) int { return bits.Len(uint(n)) }

// told are the elements that an iterator tells.
func told[T any](t *testing.T, b *order.Bag[T]) []T {
	t.Helper()
	steps := b.All()
	if steps == nil {
		t.Fatal("the iterator is nil")
	}
	var out []T
	for x := range steps {
		out = append(out, x)
	}
	return out
}

// emptied are the elements that are taken until there is none.
func emptied(t *testing.T, b *order.Bag[card]) []card {
	t.Helper()
	var out []card
	for n := b.Len(); n > 0; n-- {
		x, ok := b.Take()
		if !ok || b.Len() != n-1 {
			t.Fatalf("Take of %d elements is %v, %v and leaves %d", n, x, ok, b.Len())
		}
		out = append(out, x)
	}
	if x, ok := b.Take(); ok || x != (card{}) || b.Len() != 0 {
		t.Fatalf("Take of none is %v, %v and leaves %d", x, ok, b.Len())
	}
	return out
}

// rule makes numbers that look like any, the same in each run.
type rule struct{ state uint64 }

func (r *rule) next() uint64 {
	r.state += 0x9e3779b97f4a7c15
	z := r.state
	z = (z ^ z>>30) * 0xbf58476d1ce4e5b9
	z = (z ^ z>>27) * 0x94d049bb133111eb
	return z ^ z>>31
}

func (r *rule) below(n int) int { return int(r.next() % uint64(n)) }

// keys makes n keys below k.
func (r *rule) keys(n, k int) []int {
	out := make([]int, n)
	for i := range out {
		out[i] = r.below(k)
	}
	return out
}

// shapes are lists of n cards: rising, falling, all alike, to and fro, with many alike, with few alike.
func (r *rule) shapes(n int) [][]card {
	rising := upTo(n)
	falling := slices.Clone(rising)
	slices.Reverse(falling)
	halves := slices.Concat(rising[n/2:], rising[:n/2])
	saw, organ := make([]int, n), make([]int, n)
	for i := range n {
		saw[i] = i % 7
		organ[i] = min(i, n-i)
	}
	nearly := slices.Clone(rising)
	if n > 1 {
		i := r.below(n - 1)
		nearly[i], nearly[i+1] = nearly[i+1], nearly[i]
	}
	var out [][]card
	for _, keys := range [][]int{rising, falling, make([]int, n), halves, saw, organ, nearly, r.keys(n, 3), r.keys(n, n+1), r.keys(n, 1<<40)} {
		out = append(out, cards(keys...))
	}
	return out
}
