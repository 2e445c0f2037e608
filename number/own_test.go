package number_test

import (
	"slices"
	"sync"
	"testing"
	"unsafe"

	"crucible/api"
	"crucible/ieee"
	"crucible/number"
)

type question struct {
	a, b    api.Value
	pattern uint64
}

type answer struct {
	half, single, double, whole api.Value
	bits, narrow                uint64
	width, cmp                  int
	isBits, isNarrow, isCmp     bool
}

func ask(q question) answer {
	out := answer{half: number.Of(own16(q.pattern)), single: number.Of(uint32(q.pattern)), double: number.Of(q.pattern), whole: number.OfInt(q.a.Int)}
	out.bits, out.isBits = number.Bits(q.a)
	out.width, out.narrow, out.isNarrow = number.Narrow(q.a)
	out.cmp, out.isCmp = number.Cmp(q.a, q.b)
	return out
}

func (x answer) values() []api.Value { return []api.Value{x.half, x.single, x.double, x.whole} }

// is: the same answer, what the lists hold too.
func (x answer) is(y answer) bool {
	return slices.EqualFunc(x.values(), y.values(), same) && x.bits == y.bits && x.narrow == y.narrow && x.width == y.width && x.cmp == y.cmp &&
		x.isBits == y.isBits && x.isNarrow == y.isNarrow && x.isCmp == y.isCmp
}

func (r *rule) questions(n int) []question {
	out := make([]question, n)
	for i := range out {
		out[i] = question{r.anything(), r.anything(), r.float64()}
		if i%4 == 0 {
			out[i].pattern = pick(r, few[uint64]())
		}
		if i%3 == 0 {
			out[i].a.Int.Mag = append(slices.Clone(out[i].a.Int.Mag), make(api.Nat, r.below(3))...)
		}
	}
	return out
}

// R1, R5: anything at all, in any order, and several at a time.
func TestSame(t *testing.T) {
	r := rule{1561}
	questions := r.questions(3000)
	var first []answer
	for _, q := range questions {
		first = append(first, ask(q))
	}
	for i, q := range slices.Backward(questions) {
		if !ask(q).is(first[i]) {
			t.Errorf("what was asked before makes a difference: %s", show(q.a))
		}
	}
	var wait sync.WaitGroup
	for range 4 {
		wait.Go(func() {
			for i, q := range questions {
				if !ask(q).is(first[i]) {
					t.Errorf("what is asked at the same time makes a difference: %s", show(q.a))
				}
			}
		})
	}
	wait.Wait()
}

// roomy is v with spare room behind each list, and something in it.
func roomy(v api.Value) api.Value {
	mag := append(slices.Clone(v.Int.Mag), 77, 78, 79)
	kids := make([]api.Value, 0, len(v.Kids)+1)
	for _, k := range v.Kids {
		kids = append(kids, roomy(k))
	}
	kids = append(kids, text("spare"))
	v.Int.Mag, v.Kids = mag[:len(v.Int.Mag)], kids[:len(v.Kids)]
	return v
}

// full is v with its spare room made part of it, in memory of its own.
func full(v api.Value) api.Value {
	v.Int.Mag = slices.Clone(v.Int.Mag[:cap(v.Int.Mag)])
	kids := make([]api.Value, 0, cap(v.Kids))
	for _, k := range v.Kids[:cap(v.Kids)] {
		kids = append(kids, full(k))
	}
	v.Kids = kids
	return v
}

// scribble writes over all memory of v, its spare room too.
func scribble(v api.Value) {
	mag := v.Int.Mag[:cap(v.Int.Mag)]
	for i := range mag {
		mag[i] ^= 0xa5a5a5a5
	}
	kids := v.Kids[:cap(v.Kids)]
	for i, k := range kids {
		scribble(k)
		kids[i] = api.Value{Kind: 99, N: 99, Text: "written over"}
	}
}

// apart: do no two of the numbers share memory, spare room too?
func apart(vs ...api.Value) bool {
	type span struct{ from, to uintptr }
	var all []span
	for _, v := range vs {
		if from := uintptr(unsafe.Pointer(unsafe.SliceData(v.Int.Mag))); cap(v.Int.Mag) > 0 {
			all = append(all, span{from, from + 4*uintptr(cap(v.Int.Mag))})
		}
	}
	for i, a := range all {
		for _, b := range all[i+1:] {
			if a.from < b.to && b.from < a.to {
				return false
			}
		}
	}
	return true
}

// R4: what is handed in is as it was, its spare room too; answers are memory of their own, to which writing what was handed in over makes no difference, nor the other way round.
func TestOwnMemory(t *testing.T) {
	r := rule{1562}
	for _, q := range r.questions(3000) {
		in := question{roomy(q.a), roomy(q.b), q.pattern}
		was := question{full(in.a), full(in.b), q.pattern}
		want := ask(q)
		got, again := ask(in), ask(in)
		if !got.is(want) || !again.is(want) {
			t.Errorf("spare room makes a difference: %s, %s", show(in.a), show(in.b))
		}
		if !apart(slices.Concat([]api.Value{in.a, in.b}, got.values(), again.values())...) {
			t.Errorf("an answer shares memory: %s, %#x", show(in.a), in.pattern)
		}
		for _, v := range got.values() {
			scribble(v)
		}
		if !same(full(in.a), was.a) || !same(full(in.b), was.b) {
			t.Errorf("what is handed in is changed: %s, %s", show(in.a), show(in.b))
		}
		if !again.is(want) || !ask(in).is(want) {
			t.Errorf("writing an answer over makes a difference: %s", show(in.a))
		}
		scribble(in.a)
		scribble(in.b)
		if !again.is(want) {
			t.Errorf("writing over what was handed in makes a difference: %s", show(q.a))
		}
		if t.Failed() {
			break
		}
	}
}

// R1: whole numbers longer than any that shifting makes, against every sort of number.
func TestLong(t *testing.T) {
	for _, n := range []int{api.MaxLimbs, api.MaxLimbs + 1, 1 << 20} {
		for _, low := range []uint32{0, 1} {
			for _, neg := range []bool{false, true} {
				mag := make(api.Nat, n)
				mag[0], mag[n-1] = low, 1<<31
				v, far := limbs(neg, mag...), 1
				if neg {
					far = -1
				}
				bitsAre(t, v, 0, false)
				narrowIs(t, v, 0, 0, false)
				cmpIs(t, v, v, 0, true)
				for _, w := range []api.Value{limbs(false), limbs(true, 1), float(1), float(1<<63 | 1), float(half3), number.Of(uint64(greatest)), number.Of(uint64(greatest | 1<<63))} {
					cmpIs(t, v, w, far, true)
					cmpIs(t, w, v, -far, true)
				}
				cmpIs(t, v, float(plus), -1, true)
				cmpIs(t, v, float(minus), 1, true)
				cmpIs(t, v, float(noNum), 0, false)
			}
		}
	}
}

// R1: structs nested as deep as the document's bound has it, of lists and of what may have no Kids.
func TestDeep(t *testing.T) {
	for _, kind := range []api.Kind{api.VList, api.VTag, api.VInt, api.VFloat, api.VNone} {
		v := limbs(false, 1)
		for range 1<<16 - 1 {
			v = api.Value{Kind: kind, Kids: []api.Value{v}}
		}
		bitsAre(t, v, 0, false)
		narrowIs(t, v, 0, 0, false)
		cmpIs(t, v, limbs(false, 1), 0, false)
		cmpIs(t, float(half3), v, 0, false)
	}
}

func anyPattern[T ieee.Bits](t *testing.T) {
	r := rule{1563}
	for range 20000 {
		x := T(r.next())
		if v := number.Of(x); !isNumber(v) {
			t.Errorf("Of(%#x) = %s", x, show(v))
		}
	}
}

// R1: any pattern is some number's.
func TestAnyPattern(t *testing.T) {
	widths(t, anyPattern[uint16], anyPattern[uint32], anyPattern[uint64], anyPattern[own16], anyPattern[own32], anyPattern[own64])
}
