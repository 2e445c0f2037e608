package order_test

import (
	"fmt"
	"runtime"
	"slices"
	"sync"
	"testing"
	"weak"

	"crucible/order"
)

type question struct {
	l  []card
	at int
	x  card
}

// ask is what all calls answer to a question, as a text.
func ask(q question) string {
	n, ok := order.Search(q.l, q.x, byKey)
	b := order.New(byKey)
	b.Add(q.l...)
	first, is := b.Take()
	b.Add(q.x)
	return fmt.Sprint(order.Sort(q.l, byKey), order.Merge(q.l[:q.at], q.l[q.at:], byKey), order.Unique(q.l, byKey), n, ok, order.Twice(q.l, byKey),
		first, is, b.Len(), slices.Collect(b.All()))
}

func (r *rule) questions(n int) []question {
	out := make([]question, n)
	for i := range out {
		l := cards(r.keys(r.below(20), 1+r.below(30))...)
		out[i] = question{l, r.below(len(l) + 1), card{r.below(30), -1}}
	}
	return out
}

// R1, R5: anything at all, in any order, and several at a time.
func TestSame(t *testing.T) {
	r := rule{71}
	questions := r.questions(1000)
	var first []string
	for _, q := range questions {
		first = append(first, ask(q))
	}
	for i, q := range slices.Backward(questions) {
		if ask(q) != first[i] {
			t.Errorf("what was asked before makes a difference: %v", q)
		}
	}
	var wait sync.WaitGroup
	for range 4 {
		wait.Go(func() {
			for i, q := range questions {
				if ask(q) != first[i] {
					t.Errorf("what is asked at the same time makes a difference: %v", q)
				}
			}
		})
	}
	wait.Wait()
}

// R5: one bag's iterator, ranged over by several at a time.
func TestAllAtTheSameTime(t *testing.T) {
	r := rule{73}
	b := order.New(byKey)
	b.Add(cards(r.keys(500, 100)...)...)
	steps := b.All()
	want := slices.Collect(steps)
	var wait sync.WaitGroup
	for range 4 {
		wait.Go(func() {
			if !slices.Equal(slices.Collect(steps), want) {
				t.Errorf("several at a time make a difference")
			}
		})
	}
	wait.Wait()
}

// R5: two bags share nothing, whether they have one order or one list of elements.
func TestTwoBags(t *testing.T) {
	r := rule{75}
	for range 200 {
		l := cards(r.keys(r.below(30), 10)...)
		one, two := order.New(byKey), order.New(byKey)
		falling := order.New(func(a, b card) int { return byKey(b, a) })
		one.Add(l...)
		two.Add(l...)
		falling.Add(l...)
		for one.Len() > 0 {
			one.Take()
		}
		one.Add(card{-5, 99})
		if got := told(t, two); !slices.Equal(got, sorted(l, byKey)) {
			t.Fatalf("the other bag of %v has %v", l, got)
		}
		if got := told(t, falling); !slices.Equal(got, sorted(l, func(a, b card) int { return byKey(b, a) })) {
			t.Fatalf("the falling bag of %v has %v", l, got)
		}
	}
}

// R4: what is handed in is as it was, with its spare room and what stands ahead of it.
func TestLeftAsItWas(t *testing.T) {
	r := rule{77}
	for range 3000 {
		if t.Failed() {
			break
		}
		whole := cards(r.keys(40, 1+r.below(40))...)
		before := slices.Clone(whole)
		from := r.below(20)
		part := whole[from : from+r.below(20)]
		other := whole[5 : 5+r.below(20)]
		order.Sort(part, byKey)
		order.Merge(part, other, byKey)
		order.Unique(part, byKey)
		order.Search(part, whole[0], byKey)
		order.Twice(part, byKey)
		b := order.New(byKey)
		b.Add(part...)
		b.Add(other...)
		told(t, b)
		emptied(t, b)
		if !slices.Equal(whole, before) {
			t.Errorf("%v became %v", before, whole)
		}
	}
}

// R4: a bag keeps what it was given by its content.
func TestNotKept(t *testing.T) {
	r := rule{79}
	for n := range 40 {
		l := cards(r.keys(n, 10)...)
		want := sorted(l, byKey)
		b := order.New(byKey)
		b.Add(l...)
		clear(l)
		if got := told(t, b); !slices.Equal(got, want) {
			t.Errorf("of %v the bag has %v", want, got)
		}
		if got := emptied(t, b); !slices.Equal(got, want) {
			t.Errorf("of %v the bag gives %v", want, got)
		}
	}
}

// written writes over a list, its spare room, and what is added behind it.
func written(l []card) {
	for _, m := range [][]card{l[:cap(l)], append(l, card{77, 77}, card{78, 78})} {
		for i := range m {
			m[i] = card{-99, -99}
		}
	}
}

// R4: what is answered stays as it is, when the lists handed in or other answers are written over; and writing over it changes nothing else.
func TestOwnMemory(t *testing.T) {
	r := rule{81}
	for _, call := range []func(l []card) []card{
		func(l []card) []card { return order.Sort(l, byKey) },
		func(l []card) []card { return order.Merge(l, nil, byKey) },
		func(l []card) []card { return order.Merge(nil, l, byKey) },
		func(l []card) []card { return order.Merge(l[:len(l)/2], l[len(l)/2:], byKey) },
		func(l []card) []card { return order.Unique(l, byKey) },
		func(l []card) []card { b := order.New(byKey); b.Add(l...); return slices.Collect(b.All()) },
	} {
		for n := range 40 {
			for _, l := range r.shapes(n) {
				before := slices.Clone(l)
				one, two := call(l), call(l)
				want := slices.Clone(two)
				written(one)
				if !slices.Equal(l, before) || !slices.Equal(two, want) || !slices.Equal(call(l), want) {
					t.Fatalf("writing over an answer to %v makes %v of it, and of another answer %v", before, l, two)
				}
				written(l)
				if !slices.Equal(two, want) {
					t.Fatalf("writing over %v makes %v of its answer", before, two)
				}
			}
		}
	}
}

// R4: lists that are empty and nil are the same.
func TestEmpty(t *testing.T) {
	for _, l := range [][]card{nil, {}, make([]card, 0, 5), cards(1, 2)[:0]} {
		n, ok := order.Search(l, card{1, 1}, byKey)
		if len(order.Sort(l, byKey)) != 0 || len(order.Merge(l, l, byKey)) != 0 || len(order.Unique(l, byKey)) != 0 || n != 0 || ok || order.Twice(l, byKey) != -1 {
			t.Errorf("of no element: %d, %v", n, ok)
		}
		if one := cards(1); !slices.Equal(order.Merge(l, one, byKey), one) || !slices.Equal(order.Merge(one, l, byKey), one) {
			t.Error("one and none")
		}
	}
}

// A bag keeps no more than it needs: what was taken out of it is free to go.
func TestTakenIsGone(t *testing.T) {
	b := order.New(func(x, y *[1000]int) int { return x[0] - y[0] })
	var weaks []weak.Pointer[[1000]int]
	for i := range 20 {
		x := &[1000]int{i * 7 % 20}
		weaks = append(weaks, weak.Make(x))
		b.Add(x)
	}
	for range 20 {
		b.Take()
	}
	gone := 0
	for range 20 {
		runtime.GC()
		gone = 0
		for _, w := range weaks {
			if w.Value() == nil {
				gone++
			}
		}
		if gone >= 19 {
			break
		}
	}
	if gone < 19 { // one may still lie where a call has left it
		t.Errorf("only %d of 20 are gone", gone)
	}
	runtime.KeepAlive(b)
}

// R1: some hundred thousand elements.
func TestLong(t *testing.T) {
	r := rule{83}
	const n = 300000
	for _, keys := range [][]int{r.keys(n, 1000), r.keys(n, 1<<50), upTo(n), make([]int, n)} {
		l := cards(keys...)
		want := slices.Clone(l)
		slices.SortStableFunc(want, byKey)
		got := order.Sort(l, byKey)
		if !slices.Equal(got, want) {
			t.Fatalf("%d elements are not in order", n)
		}
		if merged := order.Merge(got[:n/3], got[n/3:], byKey); !slices.Equal(merged, want) {
			t.Errorf("two lists in order are not one")
		}
		classes := order.Unique(got, byKey)
		if twice := order.Twice(l, byKey); (twice < 0) != (len(classes) == n) {
			t.Errorf("Twice = %d, of %d classes", twice, len(classes))
		}
		b := order.New(byKey)
		b.Add(l...)
		if !slices.Equal(told(t, b), want) {
			t.Errorf("a bag of %d tells them out of order", n)
		}
	}
}
