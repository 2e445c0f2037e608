package order

import "iter"

// mergeRuns writes the elements of from into into, each two runs of that size (the last may be shorter, or missing) as one run in order.
func mergeRuns[T any](into, from []T, size int, cmp func(a, b T) int) {
	at := 0
	for at < len(from) {
		middle := min(at+size, len(from))
		end := min(middle+size, len(from))
		for x := range merged(from[at:middle], from[middle:end], cmp) {
			into[at] = x
			at++
		}
	}
}

// merged tells the elements of both lists: the next of b where it is below the next of a, else the next of a.
func merged[T any](a, b []T, cmp func(a, b T) int) iter.Seq[T] {
	return func(yield func(T) bool) {
		i, j := 0, 0
		for i < len(a) || j < len(b) {
			var x T
			if i == len(a) || j < len(b) && cmp(b[j], a[i]) < 0 {
				x = b[j]
				j++
			} else {
				x = a[i]
				i++
			}
			if !yield(x) {
				return
			}
		}
	}
}

// repeats tells the numbers of the elements that are alike to the one right ahead of them.
func repeats[T any](l []T, cmp func(a, b T) int) iter.Seq[int] {
	return func(yield func(int) bool) {
		for i := 1; i < len(l); i++ {
			if cmp(l[i-1], l[i]) == 0 && !yield(i) {
				return
			}
		}
	}
}

// upTo makes the list of the numbers below n, rising.
func upTo(n int) []int {
	out := make([]int, n)
	for i := range out {
		out[i] = i
	}
	return out
}
