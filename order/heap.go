package order

// item is an element of a bag, with how many came into the bag before it: alike elements are told apart by that.
type item[T any] struct {
	element T
	number  int
}

func (b *Bag[T]) there() bool { return b != nil && b.cmp != nil }

func (b *Bag[T]) copied() *Bag[T] {
	if !b.there() {
		return nil
	}
	heap := make([]item[T], len(b.heap))
	copy(heap, b.heap)
	return &Bag[T]{cmp: b.cmp, heap: heap}
}

// ahead says whether x is to be taken before y.
func (b *Bag[T]) ahead(x, y item[T]) bool {
	c := b.cmp(x.element, y.element)
	return c < 0 || c == 0 && x.number < y.number
}

// rise moves the last item up to its place in the heap. (The heap is handed in, as is that of sink: its length then stays, whatever the order does.)
func (b *Bag[T]) rise(heap []item[T]) {
	at := len(heap) - 1
	for at > 0 {
		above := (at - 1) / 2
		if !b.ahead(heap[at], heap[above]) {
			return
		}
		heap[at], heap[above] = heap[above], heap[at]
		at = above
	}
}

// sink moves the item at the top down to its place in the heap.
func (b *Bag[T]) sink(heap []item[T]) {
	at := 0
	for 2*at+1 < len(heap) {
		below := 2*at + 1
		if below+1 < len(heap) && b.ahead(heap[below+1], heap[below]) {
			below++
		}
		if !b.ahead(heap[below], heap[at]) {
			return
		}
		heap[at], heap[below] = heap[below], heap[at]
		at = below
	}
}
