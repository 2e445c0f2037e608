package typed_test

import (
	"errors"
	"fmt"
	"math"
	"slices"
	"strings"
	"sync"
	"testing"
	"unsafe"

	"crucible/api"
	"crucible/typed"
	"crucible/value"
)

// question is something to ask each call.
type question struct {
	v         api.Value
	ints      []int64
	floats    []float64
	complexes []complex128
	e         api.Elem
	little    bool
}

func (r *rule) question() question {
	k := pick(r, kindsOf("us")...)
	return question{r.anything(), r.numbers(k, r.below(6)), r.floats(r.below(6)), r.complexes(r.below(6)), pick(r, k.elem, api.Float16, api.Float32, api.Float64, api.Elem(r.next())), r.below(2) == 0}
}

// ask writes down all that is answered.
func (q question) ask() string {
	a, wrongA := typed.Ints(q.ints, q.e, q.little)
	b, wrongB := typed.Floats(q.floats, q.e, q.little)
	return fmt.Sprintf("%+v %v %+v %v %+v %+v", a, tells(wrongA), b, tells(wrongB), typed.Complexes(q.complexes), gets(q.v))
}

// R1, R5: anything at all, in any order, and several at a time.
func TestSame(t *testing.T) {
	r := rule{2510}
	var questions []question
	var first []string
	for range 3000 {
		q := r.question()
		questions = append(questions, q)
		first = append(first, q.ask())
	}
	for i, q := range slices.Backward(questions) {
		if q.ask() != first[i] {
			t.Errorf("what was asked before makes a difference: %+v", q)
		}
	}
	var wait sync.WaitGroup
	for range 4 {
		wait.Go(func() {
			for i, q := range questions {
				if q.ask() != first[i] {
					t.Errorf("what is asked at the same time makes a difference: %+v", q)
				}
			}
		})
	}
	wait.Wait()
}

// roomy is the same with spare room behind each list, in which something stands, and with no list nil.
func roomy(v api.Value) api.Value {
	kids := make([]api.Value, 0, len(v.Kids)+2)
	for _, kid := range v.Kids {
		kids = append(kids, roomy(kid))
	}
	copy(kids[len(kids):len(kids)+2], []api.Value{text("spare"), text("spare")})
	v.Int.Mag, v.Kids = spare(v.Int.Mag, 7, 8, 9), kids
	return v
}

// spare puts three elements into the spare room behind a list.
func spare[T any](l []T, more ...T) []T {
	out := append(make([]T, 0, len(l)+3), l...)
	copy(out[len(l):len(l)+3], more)
	return out
}

// isSpare: are they still there?
func isSpare[T comparable](l []T, more ...T) bool {
	return slices.Equal(l[len(l):len(l)+3], more)
}

// intact: is the spare room of all lists as roomy left it?
func intact(v api.Value) bool {
	m := len(v.Kids)
	return isSpare(v.Int.Mag, 7, 8, 9) && slices.EqualFunc(v.Kids[m:m+2], []api.Value{text("spare"), text("spare")}, same) && !slices.ContainsFunc(v.Kids, func(kid api.Value) bool { return !intact(kid) })
}

// R4, R5: what is handed in is not changed, its spare room neither; how much of that there is, or whether an empty list is nil, makes no difference.
func TestLeftAsItWas(t *testing.T) {
	r := rule{2511}
	for range 5000 {
		q := r.question()
		given := q
		given.v, given.ints, given.floats, given.complexes = roomy(q.v), spare(q.ints, 7, 8, 9), spare(q.floats, 7, 8, 9), spare(q.complexes, 7, 8, 9)
		if given.ask() != q.ask() {
			t.Errorf("spare room makes a difference: %+v", q)
		}
		if !same(given.v, q.v) || !intact(given.v) {
			t.Errorf("%s is not as it was", show(q.v))
		}
		if !slices.Equal(given.ints, q.ints) || !isSpare(given.ints, 7, 8, 9) || !slices.Equal(rawBits(given.floats), rawBits(q.floats)) || !isSpare(given.floats, 7, 8, 9) || fmt.Sprint(given.complexes) != fmt.Sprint(q.complexes) || !isSpare(given.complexes, 7, 8, 9) {
			t.Errorf("a list is not as it was: %+v", q)
		}
	}
}

// rawBits tells floats that are no number from one another too.
func rawBits(l []float64) (out []uint64) {
	for _, x := range l {
		out = append(out, math.Float64bits(x))
	}
	return out
}

// span is a piece of memory.
type span struct{ from, to uintptr }

func (a span) meets(b span) bool { return a.from < b.to && b.from < a.to }

func spanOfText(s string) span {
	from := uintptr(unsafe.Pointer(unsafe.StringData(s)))
	return span{from, from + uintptr(len(s))}
}

// spanOfList is that of a list with its spare room.
func spanOfList[T any](l []T) span {
	from := uintptr(unsafe.Pointer(unsafe.SliceData(l)))
	return span{from, from + uintptr(cap(l))*unsafe.Sizeof(*new(T))}
}

// spans are all the memory of a value; a single byte may lie in a table of the language's own.
func spans(v api.Value) (out []span) {
	if cap(v.Int.Mag) > 0 {
		out = append(out, spanOfList(v.Int.Mag))
	}
	if cap(v.Kids) > 0 {
		out = append(out, spanOfList(v.Kids))
	}
	if len(v.Text) > 1 {
		out = append(out, spanOfText(v.Text))
	}
	for _, kid := range v.Kids {
		out = append(out, spans(kid)...)
	}
	return out
}

// apart: does no piece meet another one?
func apart(l ...span) bool {
	slices.SortFunc(l, func(a, b span) int {
		if a.from < b.from {
			return -1
		}
		return 1
	})
	for i := 1; i < len(l); i++ {
		if l[i-1].meets(l[i]) {
			return false
		}
	}
	return true
}

// R4: an answer is new memory: it shares none with what was handed in, with another answer, nor one list in it with another one.
func TestOwnMemory(t *testing.T) {
	r := rule{2512}
	for range 5000 {
		v := value.Copy(r.value(4))
		given := spans(v)
		a, _ := typed.Plain(v)
		b, _ := typed.Plain(v)
		if !apart(slices.Concat(given, spans(a), spans(b))...) {
			t.Errorf("Plain(%s) shares memory", show(v))
		}
		for range 2 {
			if l, _ := typed.ToInts(v); cap(l) > 0 {
				given = append(given, spanOfList(l))
			}
			if l, _ := typed.ToFloats(v); cap(l) > 0 {
				given = append(given, spanOfList(l))
			}
			if l, _ := typed.ToComplexes(v); cap(l) > 0 {
				given = append(given, spanOfList(l))
			}
		}
		if !apart(given...) {
			t.Errorf("what is read of %s shares memory", show(v))
		}
		q := r.question()
		made := []span{spanOfList(q.ints), spanOfList(q.floats), spanOfList(q.complexes)}
		for range 2 {
			x, _ := typed.Ints(q.ints, q.e, q.little)
			y, _ := typed.Floats(q.floats, q.e, q.little)
			made = append(made, slices.Concat(spans(x), spans(y), spans(typed.Complexes(q.complexes)))...)
		}
		if !apart(made...) {
			t.Errorf("what is made of %+v shares memory", q)
		}
	}
}

// R4: what is done later to what was handed in does not reach an answer.
func TestKeptByContent(t *testing.T) {
	ints, floats, complexes := []int64{1, 2}, []float64{1.5, 2}, []complex128{1 + 2i, 3}
	a, _ := typed.Ints(ints, api.Int16, true)
	b, _ := typed.Floats(floats, api.Float32, false)
	c := typed.Complexes(complexes)
	l := list(num(5), num(6))
	d, _ := typed.ToInts(l)
	e, _ := typed.ToFloats(l)
	both := list(list(num(5)), list(num(6)))
	f, _ := typed.ToComplexes(both)
	was := fmt.Sprint(a, b, c, d, e, f)
	clear(ints)
	clear(floats)
	clear(complexes)
	l.Kids[0].Int.Mag[0] = 9
	clear(l.Kids)
	both.Kids[1].Kids[0].Int.Mag[0] = 9
	clear(both.Kids)
	if got := fmt.Sprint(a, b, c, d, e, f); got != was {
		t.Errorf("%s became %s", was, got)
	}
}

// R4, R5: two faults are two things: what is done with the one is not seen in the next.
func TestOwnFaults(t *testing.T) {
	for name, c := range map[string]struct {
		ask  func() error
		want told
	}{
		"Ints":        {func() error { _, err := typed.Ints([]int64{1, 300}, api.Uint8, false); return err }, told{rep, "/1"}},
		"Ints' kind":  {func() error { _, err := typed.Ints(nil, api.Float16, false); return err }, told{arg, ""}},
		"Floats":      {func() error { _, err := typed.Floats([]float64{0.1}, api.Float16, false); return err }, told{rep, "/0"}},
		"ToInts":      {func() error { _, err := typed.ToInts(list(null)); return err }, told{rep, "/0"}},
		"no row":      {func() error { _, err := typed.ToInts(null); return err }, told{rep, ""}},
		"ToFloats":    {func() error { _, err := typed.ToFloats(list(num(1), null)); return err }, told{rep, "/1"}},
		"ToComplexes": {func() error { _, err := typed.ToComplexes(list(list(), list(null))); return err }, told{rep, "/1/0"}},
		"not as many": {func() error { _, err := typed.ToComplexes(list(list(), list(num(1)))); return err }, told{rep, "/1"}},
		"Plain":       {func() error { _, err := typed.Plain(list()); return err }, told{rep, ""}},
		"may not be":  {func() error { _, err := typed.Plain(none); return err }, told{arg, ""}},
	} {
		for range 3 {
			err := c.ask()
			if got := tells(err); got != c.want {
				t.Errorf("%s: %v, want %v", name, got, c.want)
			}
			var fault *api.Fault
			if errors.As(err, &fault) {
				*fault = api.Fault{Err: api.ErrBusy, At: 99, Path: "/9"}
			}
		}
	}
}

// R1: great lists and structs end in time and without a panic.
func TestGreat(t *testing.T) {
	many := slices.Repeat([]int64{1, -2, 3}, 100000)
	for _, k := range kindsOf("us") {
		checkedInts(t, many, k)
	}
	floats := slices.Repeat([]float64{1.5, below, math.NaN()}, 100000)
	for _, k := range kindsOf("f") {
		v, err := typed.Floats(floats, k.elem, true)
		if err != nil || len(v.Kids[0].Text) != k.size*len(floats) {
			t.Errorf("%d floats of the kind %d: %v", len(floats), k.elem, err)
		}
		readsFloats(t, v, floats...)
	}
	complexes := slices.Repeat([]complex128{1 + 2i, complex(below, math.Inf(1))}, 100000)
	readsComplexes(t, typed.Complexes(complexes), complexes...)
	for _, v := range []api.Value{
		list(slices.Repeat([]api.Value{num(7)}, 300000)...), list(slices.Repeat([]api.Value{numberOf(1e300)}, 5000)...), tag(64, raw(strings.Repeat("\x01", 300000))), tag(65, raw(strings.Repeat("\x01", 2000001))), tag(86, raw(strings.Repeat("\x7f\xf8\x00\x01", 100000))), list(limbs(false, append(slices.Repeat([]uint32{0}, 300000), 1)...)), list(limbs(true, slices.Repeat([]uint32{1}, 300000)...)), deep(20000), nested(20000, none), text(strings.Repeat("a", 2000000)), object(slices.Repeat([]api.Value{num(1)}, 100000)...),
	} {
		sameAsReference(t, v)
	}
}

// checkedInts makes numbers that are below 0 too.
func checkedInts(t *testing.T, l []int64, k kind) {
	t.Helper()
	v, err := typed.Ints(l, k.elem, false)
	if k.sort == unsigned {
		if tells(err) != (told{rep, "/1"}) {
			t.Errorf("%d numbers of the kind %d: %v", len(l), k.elem, err)
		}
		return
	}
	if err != nil || len(v.Kids[0].Text) != k.size*len(l) {
		t.Errorf("%d numbers of the kind %d: %v", len(l), k.elem, err)
	}
	readsInts(t, v, l...)
}
