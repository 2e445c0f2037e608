package order_test

import (
	"iter"
	"slices"
	"testing"

	"crucible/order"
)

// P12.4, P12.5, P12.6: the examples of the chapter.
func TestBagKnown(t *testing.T) {
	b := order.New(bySize)
	if b == nil || b.Len() != 0 {
		t.Fatal("no bag, or one with elements")
	}
	take := func(want int, ok bool) {
		t.Helper()
		if x, is := b.Take(); x != want || is != ok {
			t.Errorf("Take = %d, %v, want %d, %v", x, is, want, ok)
		}
	}
	take(0, false)
	b.Add(2, -1, -2, 1)
	if b.Len() != 4 {
		t.Errorf("Len = %d", b.Len())
	}
	take(-1, true)
	take(1, true)
	b.Add(0)
	if l := told(t, b); !slices.Equal(l, []int{0, 2, -2}) {
		t.Errorf("All = %v", l)
	}
	take(0, true)
	take(2, true)
	take(-2, true)
	take(0, false)
	take(0, false)
	if order.New[int](nil) != nil || order.New[[]string](nil) != nil {
		t.Error("a bag without an order")
	}
}

// pile is a bag in the document's words: a list of what came and was not taken.
type pile struct{ l []card }

func (p *pile) take() (card, bool) {
	if len(p.l) == 0 {
		return card{}, false
	}
	at := leastOf(p.l, byKey)
	x := p.l[at]
	p.l = slices.Delete(p.l, at, at+1)
	return x, true
}

// both are a bag and its pile, to which the same is done.
type both struct {
	t *testing.T
	b *order.Bag[card]
	p pile
	n int
}

func newBoth(t *testing.T) *both { return &both{t: t, b: order.New(byKey)} }

func (x *both) add(keys ...int) {
	l := cardsFrom(x.n+1, keys...)
	x.n += len(l)
	x.b.Add(l...)
	x.p.l = append(x.p.l, l...)
	x.same()
}

func (x *both) take() {
	x.t.Helper()
	want, is := x.p.take()
	if got, ok := x.b.Take(); got != want || ok != is {
		x.t.Fatalf("Take = %v, %v, want %v, %v", got, ok, want, is)
	}
	x.same()
}

func (x *both) same() {
	x.t.Helper()
	if x.b.Len() != len(x.p.l) {
		x.t.Fatalf("Len = %d, want %d", x.b.Len(), len(x.p.l))
	}
}

func (x *both) all() {
	x.t.Helper()
	if got, want := told(x.t, x.b), sorted(x.p.l, byKey); !slices.Equal(got, want) {
		x.t.Fatalf("All = %v, want %v", got, want)
	}
	x.same()
}

// P12.4, P12.5: all short runs of steps: an element of one of three keys comes, or one is taken.
func TestBagSteps(t *testing.T) {
	for _, steps := range allKeys(4, 7) {
		x := newBoth(t)
		for _, s := range steps {
			if s == 3 {
				x.take()
			} else {
				x.add(s)
			}
		}
		x.all()
		for range x.p.l {
			x.take()
		}
		x.take()
	}
}

// P12.4, P12.5: long runs of steps, with several elements at a time, and none.
func TestBagLong(t *testing.T) {
	r := rule{11}
	for range 300 {
		x := newBoth(t)
		k := 1 + r.below(40)
		for range 100 {
			if r.below(2) == 0 {
				x.add(r.keys(r.below(4), k)...)
			} else {
				x.take()
			}
			if r.below(10) == 0 {
				x.all()
			}
		}
		x.all()
	}
}

// P12.4: elements that come at once come one behind the other.
func TestAddAtOnce(t *testing.T) {
	r := rule{13}
	for n := range 60 {
		for _, l := range r.shapes(n) {
			at, one := order.New(byKey), order.New(byKey)
			at.Add(l...)
			for _, x := range l {
				one.Add(x)
			}
			want := sorted(l, byKey)
			if got := told(t, at); !slices.Equal(got, want) {
				t.Fatalf("at once %v are %v", l, got)
			}
			if got := emptied(t, at); !slices.Equal(got, want) {
				t.Fatalf("at once %v are taken as %v", l, got)
			}
			if got := emptied(t, one); !slices.Equal(got, want) {
				t.Fatalf("one by one %v are taken as %v", l, got)
			}
		}
	}
}

// P12.4: nothing that is added is nothing.
func TestAddNothing(t *testing.T) {
	b := order.New(byKey)
	b.Add()
	b.Add(nil...)
	b.Add([]card{}...)
	if x, ok := b.Take(); b.Len() != 0 || ok || x != (card{}) || told(t, b) != nil {
		t.Errorf("nothing is %v, %v", x, ok)
	}
	b.Add(card{1, 1})
	b.Add()
	if l := told(t, b); !slices.Equal(l, cards(1)) {
		t.Errorf("one and nothing are %v", l)
	}
}

// P12.5: the zero value of an element is an element.
func TestTakeZero(t *testing.T) {
	b := order.New(bySize)
	b.Add(0, 0)
	for _, ok := range []bool{true, true, false} {
		if x, is := b.Take(); x != 0 || is != ok {
			t.Errorf("Take = %d, %v", x, is)
		}
	}
}

// P12.5: of alike ones the first that came, also when others were taken and came in between.
func TestTakeFirst(t *testing.T) {
	b := order.New(byKey)
	var want []card
	for i := range 200 {
		b.Add(card{7, i + 1})
		b.Add(card{1, 1000 + i})
		if x, ok := b.Take(); x != (card{1, 1000 + i}) || !ok {
			t.Fatalf("Take = %v, %v", x, ok)
		}
		want = append(want, card{7, i + 1})
	}
	if got := emptied(t, b); !slices.Equal(got, want) {
		t.Errorf("alike ones are taken as %v", got)
	}
}

// R3: a bag that is not there.
func TestNotThere(t *testing.T) {
	var none *order.Bag[string]
	var zero order.Bag[string]
	for _, b := range []*order.Bag[string]{none, &zero, new(order.Bag[string]), order.New[string](nil)} {
		for range 2 {
			if x, ok := b.Take(); x != "" || ok || b.Len() != 0 || told(t, b) != nil {
				t.Errorf("a bag that is not there has %q, %v, %d", x, ok, b.Len())
			}
			b.Add()
			b.Add("a")
			b.Add("b", "c")
		}
	}
}

// P12.6: an iterator tells what the bag has when one begins to range over it.
func TestAllWhenBegun(t *testing.T) {
	b := order.New(byKey)
	steps := b.All()
	is := func(want []card) {
		t.Helper()
		if got := slices.Collect(steps); !slices.Equal(got, want) {
			t.Errorf("the iterator tells %v, want %v", got, want)
		}
	}
	is(nil)
	b.Add(cards(2, 1, 2)...)
	is([]card{{1, 2}, {2, 1}, {2, 3}})
	is([]card{{1, 2}, {2, 1}, {2, 3}})
	b.Take()
	is([]card{{2, 1}, {2, 3}})
	b.Add(card{0, 9}, card{2, 8})
	is([]card{{0, 9}, {2, 1}, {2, 3}, {2, 8}})
	for b.Len() > 0 {
		b.Take()
	}
	is(nil)
}

// P12.6: whatever is added or taken while it goes on.
func TestAllMeanwhile(t *testing.T) {
	for _, meanwhile := range []struct {
		name string
		do   func(b *order.Bag[card], x card)
		left int
	}{
		{"below", func(b *order.Bag[card], x card) { b.Add(card{-x.mark, 100}) }, 120},
		{"above", func(b *order.Bag[card], x card) { b.Add(card{99, 100}) }, 120},
		{"alike", func(b *order.Bag[card], x card) { b.Add(card{x.key, 100}) }, 120},
		{"taken", func(b *order.Bag[card], x card) { b.Take() }, 0},
		{"two taken", func(b *order.Bag[card], x card) { b.Take(); b.Take() }, 0},
		{"in turns", func(b *order.Bag[card], x card) { b.Take(); b.Add(card{x.key / 2, 100}) }, 60},
		{"emptied", func(b *order.Bag[card], x card) {
			for b.Len() > 0 {
				b.Take()
			}
		}, 0},
		{"asked", func(b *order.Bag[card], x card) { told(t, b) }, 60},
	} {
		r := rule{15}
		l := cards(r.keys(60, 20)...)
		b := order.New(byKey)
		b.Add(l...)
		var got []card
		for x := range b.All() {
			got = append(got, x)
			meanwhile.do(b, x)
		}
		if want := sorted(l, byKey); !slices.Equal(got, want) || b.Len() != meanwhile.left {
			t.Errorf("%s: All = %v, and %d are left, want %v and %d", meanwhile.name, got, b.Len(), want, meanwhile.left)
		}
	}
}

// P12.6: broken off at every place, and ranged over again.
func TestAllBroken(t *testing.T) {
	r := rule{17}
	l := cards(r.keys(40, 12)...)
	b := order.New(byKey)
	b.Add(l...)
	want := sorted(l, byKey)
	steps := b.All()
	for n := 1; n <= len(l); n++ {
		var got []card
		for x := range steps {
			got = append(got, x)
			if len(got) == n {
				break
			}
		}
		if !slices.Equal(got, want[:n]) {
			t.Errorf("broken off behind %d: %v", n, got)
		}
		if again := slices.Collect(steps); !slices.Equal(again, want) || b.Len() != len(l) {
			t.Errorf("again: %v, and %d are left", again, b.Len())
		}
	}
}

// P12.6: one iterator ranged over within itself, and pulled at by turns.
func TestAllNested(t *testing.T) {
	b := order.New(byKey)
	b.Add(cards(2, 0, 1)...)
	steps := b.All()
	want := []card{{0, 2}, {1, 3}, {2, 1}}
	var outer []card
	for x := range steps {
		outer = append(outer, x)
		if inner := slices.Collect(steps); !slices.Equal(inner, want) {
			t.Errorf("within: %v", inner)
		}
	}
	if !slices.Equal(outer, want) {
		t.Errorf("around: %v", outer)
	}
	one, stopOne := iter.Pull(steps)
	defer stopOne()
	x, _ := one()
	b.Take()
	two, stopTwo := iter.Pull(steps)
	defer stopTwo()
	y, _ := two()
	z, _ := one()
	if x != want[0] || y != want[1] || z != want[1] {
		t.Errorf("by turns: %v, %v, %v", x, y, z)
	}
}

// P12.4 to P12.6: elements of other types.
func TestBagOthers(t *testing.T) {
	lists := order.New(slices.Compare[[]byte])
	lists.Add([]byte("b"), nil, []byte("ab"), []byte("a"))
	var got []string
	for x := range lists.All() {
		got = append(got, string(x))
	}
	if !slices.Equal(got, []string{"", "a", "ab", "b"}) {
		t.Errorf("lists: %q", got)
	}
	if x, ok := lists.Take(); x != nil || !ok || lists.Len() != 3 {
		t.Errorf("the least list is %v, %v", x, ok)
	}
	empty := order.New(func(a, b struct{}) int { return 0 })
	empty.Add(make([]struct{}, 5)...)
	if n := len(told(t, empty)); n != 5 || empty.Len() != 5 {
		t.Errorf("five of nothing are %d", n)
	}
	bags := order.New(func(a, b *order.Bag[int]) int { return a.Len() - b.Len() })
	full := order.New(bySize)
	full.Add(1)
	bags.Add(full, nil)
	if x, ok := bags.Take(); x != nil || !ok {
		t.Errorf("of bags the one that is not there is not first")
	}
}
