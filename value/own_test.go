package value_test

import (
	"errors"
	"fmt"
	"slices"
	"strings"
	"sync"
	"testing"
	"unsafe"

	"crucible/api"
	"crucible/value"
)

type question struct{ a, b api.Value }

type answer struct {
	check, fail           string
	compare, depth, nodes int
	found                 bool
	copied, mapped, value api.Value
}

func ask(q question) answer {
	m, err := value.Map(q.a.Kids...)
	v, ok := value.Find(q.a, q.b)
	return answer{
		check: fmt.Sprint(value.Check(q.a)), fail: fmt.Sprint(err),
		compare: value.Compare(q.a, q.b), depth: value.Depth(q.a), nodes: value.Nodes(q.a),
		found: ok, copied: value.Copy(q.a), mapped: m, value: v,
	}
}

func (x answer) is(y answer) bool {
	return x.check == y.check && x.fail == y.fail && x.compare == y.compare && x.depth == y.depth && x.nodes == y.nodes && x.found == y.found &&
		same(x.copied, y.copied) && same(x.mapped, y.mapped) && same(x.value, y.value)
}

// questions are structs of all sorts, many of them maps and one of their keys.
func (r *rule) questions(n int) []question {
	out := make([]question, n)
	for i := range out {
		switch i % 3 {
		case 0:
			out[i] = question{r.anything(r.below(4)), r.anything(r.below(4))}
		case 1:
			out[i] = question{r.spoiled(r.value(4), r.below(2)), r.value(2)}
		case 2:
			m, _ := mapOf(r.values(2, 2*r.below(5)))
			out[i] = question{m, r.leaf()}
			if len(m.Kids) > 0 {
				out[i].b = copied(m.Kids[0])
			}
		}
	}
	return out
}

// R1, R5: anything at all, in any order, and several at a time.
func TestSame(t *testing.T) {
	r := rule{1471}
	questions := r.questions(1500)
	var first []answer
	for _, q := range questions {
		first = append(first, ask(q))
	}
	for i, q := range slices.Backward(questions) {
		if !ask(q).is(first[i]) {
			t.Errorf("what was asked before makes a difference: %s", show(q.a))
		}
	}
	var wait sync.WaitGroup
	for range 4 {
		wait.Go(func() {
			for i, q := range questions {
				if !ask(q).is(first[i]) {
					t.Errorf("what is asked at the same time makes a difference: %s", show(q.a))
				}
			}
		})
	}
	wait.Wait()
}

// roomy is v with spare room behind each list, and something in it.
func roomy(v api.Value) api.Value {
	mag := append(slices.Clone(v.Int.Mag), 77, 78, 79)
	kids := make([]api.Value, 0, len(v.Kids)+2)
	for _, k := range v.Kids {
		kids = append(kids, roomy(k))
	}
	kids = append(kids, limbs(true, 5, 0), text("spare"))
	v.Int.Mag, v.Kids = mag[:len(v.Int.Mag)], kids[:len(v.Kids)]
	return v
}

// full is v with its spare room made part of it.
func full(v api.Value) api.Value {
	v.Int.Mag = slices.Clone(v.Int.Mag[:cap(v.Int.Mag)])
	kids := make([]api.Value, 0, cap(v.Kids))
	for _, k := range v.Kids[:cap(v.Kids)] {
		kids = append(kids, full(k))
	}
	v.Kids = kids
	return v
}

// scribble writes over all memory of v, its spare room too.
func scribble(v api.Value) {
	mag := v.Int.Mag[:cap(v.Int.Mag)]
	for i := range mag {
		mag[i] ^= 0xa5a5a5a5
	}
	kids := v.Kids[:cap(v.Kids)]
	for i, k := range kids {
		scribble(k)
		kids[i] = api.Value{Kind: 99, N: 99, Text: "written over", Kids: []api.Value{{}}}
	}
}

// span is the memory of one list, its spare room too.
type span struct{ from, to uintptr }

func spanOf[T any](l []T) span {
	var one T
	from := uintptr(unsafe.Pointer(unsafe.SliceData(l)))
	return span{from, from + uintptr(cap(l))*unsafe.Sizeof(one)}
}

func spans(v api.Value) []span {
	out := []span{spanOf(v.Int.Mag), spanOf(v.Kids)}
	for _, k := range v.Kids[:cap(v.Kids)] {
		out = append(out, spans(k)...)
	}
	return out
}

// apart: does no list share memory with another one?
func apart(vs ...api.Value) bool {
	var all []span
	for _, v := range vs {
		for _, s := range spans(v) {
			if s.from < s.to {
				all = append(all, s)
			}
		}
	}
	slices.SortFunc(all, func(a, b span) int {
		if a.from < b.from {
			return -1
		}
		return 1
	})
	for i := 1; i < len(all); i++ {
		if all[i-1].to > all[i].from {
			return false
		}
	}
	return true
}

// R4: what is handed in is as it was, its spare room too; answers are memory of their own, to which writing what was handed in over makes no difference, nor the other way round.
func TestOwnMemory(t *testing.T) {
	r := rule{1472}
	for _, q := range r.questions(3000) {
		in := question{roomy(q.a), roomy(q.b)}
		was := question{full(in.a), full(in.b)}
		want := ask(q)
		got, again := ask(in), ask(in)
		if !same(full(in.a), was.a) || !same(full(in.b), was.b) {
			t.Errorf("what is handed in is changed: %s, %s", show(in.a), show(in.b))
		}
		if !got.is(want) || !again.is(want) {
			t.Errorf("spare room makes a difference: %s, %s", show(in.a), show(in.b))
		}
		if !apart(in.a, in.b, got.copied, got.mapped, got.value, again.copied, again.mapped, again.value) {
			t.Errorf("an answer shares memory: %s, %s", show(in.a), show(in.b))
		}
		for _, v := range []api.Value{got.copied, got.mapped, got.value} {
			scribble(v)
		}
		if !same(full(in.a), was.a) || !same(full(in.b), was.b) || !again.is(want) || !ask(in).is(want) {
			t.Errorf("writing an answer over makes a difference: %s, %s", show(in.a), show(in.b))
		}
		scribble(in.a)
		scribble(in.b)
		if !again.is(want) {
			t.Errorf("writing over what was handed in makes a difference: %s, %s", show(q.a), show(q.b))
		}
		if t.Failed() {
			break
		}
	}
}

// R4: two nodes that share memory when they are handed in do not share it in an answer.
func TestOwnLists(t *testing.T) {
	one := list(limbs(false, 7), limbs(true, 8, 9))
	v := list(one, one, tag(1, one), mapped(one, one))
	c := value.Copy(v)
	if !same(c, v) || !apart(c) {
		t.Errorf("Copy(%s) = %s, lists apart: %v", show(v), show(c), apart(c))
	}
	m, err := value.Map(one, one, tag(1, one), one)
	if err != nil || !apart(m) {
		t.Errorf("Map: %v, lists apart: %v", err, apart(m))
	}
	two := slices.Repeat([]api.Value{one}, 2)
	m, err = value.Map(two...)
	if err != nil || !apart(m, one) {
		t.Errorf("Map of a list: %v", err)
	}
}

// R4: errors are not kept: writing one over changes no later one.
func TestOwnErrors(t *testing.T) {
	bad := list(num(1), wrong())
	for _, call := range []func() error{
		func() error { return value.Check(bad) },
		func() error { return value.Check(deep(129)) },
		func() error { _, err := value.Map(null()); return err },
		func() error { _, err := value.Map(null(), bad); return err },
		func() error { _, err := value.Map(null(), null(), null(), null()); return err },
	} {
		first, second := call(), call()
		want := second.Error()
		var f *api.Fault
		if !errors.As(first, &f) {
			t.Fatalf("%v tells no place", first)
		}
		*f = api.Fault{Err: api.ErrKey, At: -1, Path: "/written over"}
		if second.Error() != want || call().Error() != want {
			t.Errorf("%v and %v; want %v", second, call(), want)
		}
	}
}

// R6: Map, which takes values, answers what Check answers of them.
func TestMapAsCheck(t *testing.T) {
	r := rule{1473}
	for range 5000 {
		v := r.spoiled(r.value(r.below(4)), r.below(3))
		want := checked(v)
		if want.err == nil {
			continue
		}
		refuses(t, told{want.err, 0, "/0" + want.path}, v, v)
		refuses(t, told{want.err, 0, "/3" + want.path}, null(), num(1), null(), v)
		misses(t, mapped(null(), v), null())
		misses(t, mapped(null(), null()), v)
		if t.Failed() {
			break
		}
	}
}

// R1: structs nested as deep as the document's bound has it, of containers and of others.
func TestDeep(t *testing.T) {
	const n = 1<<16 - 1
	for _, shape := range []func(api.Value) api.Value{inList, inTag, asKey, asValue} {
		step := "/0"
		if len(shape(null()).Kids) == 2 && shape(num(1)).Kids[1].Kind == api.VInt {
			step = "/1"
		}
		v, w := within(n, num(1), shape), within(n, wrong(), shape)
		checks(t, v, told{err: api.ErrLimit, path: strings.Repeat(step, 128)})
		checks(t, w, told{err: api.ErrArg, path: strings.Repeat(step, n)})
		refuses(t, told{err: api.ErrArg, path: "/1" + strings.Repeat(step, n)}, null(), w)
		refuses(t, told{err: api.ErrLimit, path: "/1" + strings.Repeat(step, 128)}, null(), v)
		compares(t, w, v, -1)
		compares(t, v, value.Copy(v), 0)
		if d := value.Depth(v); d != n {
			t.Errorf("Depth: %d", d)
		}
		if got, want := value.Nodes(v), n*len(shape(null()).Kids)+1; got != want {
			t.Errorf("Nodes: %d; want %d", got, want)
		}
		misses(t, mapped(null(), v), null())
		misses(t, mapped(null(), num(1)), v)
	}
	odd := within(n, num(1), func(v api.Value) api.Value { return api.Value{Kind: api.VText, Kids: []api.Value{v}} })
	mayNot(t, odd)
	if d, m := value.Depth(odd), value.Nodes(odd); d != 0 || m != n+1 {
		t.Errorf("of texts: %d, %d", d, m)
	}
}

// R1: long lists, and a map with many pairs.
func TestLong(t *testing.T) {
	const n = 1 << 16
	r := rule{1474}
	var kids []api.Value
	for i := range n {
		kids = append(kids, text(fmt.Sprintf("%016x", r.next())), num(int64(i)))
	}
	m, err := value.Map(kids...)
	if err != nil || len(m.Kids) != 2*n {
		t.Fatalf("a long map: %v", err)
	}
	mayBe(t, m)
	for range 20 {
		i := r.below(n)
		finds(t, m, kids[2*i], kids[2*i+1], true)
	}
	misses(t, m, text("no such key"))
	if value.Nodes(m) != 2*n+1 || value.Depth(m) != 1 || !same(value.Copy(m), m) {
		t.Errorf("a long map is measured otherwise")
	}
	kids[2*n-2] = copied(kids[0])
	refuses(t, told{err: api.ErrInput, at: n - 1}, kids...)
	refuses(t, told{err: api.ErrArg, at: 2*n - 1}, kids[1:]...)
	kids[2*n-1] = wrong()
	refuses(t, told{err: api.ErrArg, path: fmt.Sprintf("/%d", 2*n-1)}, kids...)
	checks(t, list(kids...), told{err: api.ErrArg, path: fmt.Sprintf("/%d", 2*n-1)})
	long := text(strings.Repeat("é", 1<<20))
	mayBe(t, long)
	mayNot(t, text(long.Text+"\xc3"))
	compares(t, long, text(long.Text+"\x00"), -1)
}
