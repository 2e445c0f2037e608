package fault_test

import (
	"errors"
	"fmt"
	"slices"
	"strconv"
	"strings"
	"sync"
	"testing"

	"crucible/api"
	"crucible/fault"
)

type question struct {
	err  error
	by   int
	step string
	code int
}

type answer struct{ tells, made, shifted, within, first told }

func ask(q question) answer {
	return answer{
		tells:   tell(q.err),
		made:    tell(fault.New(q.code, q.by, q.step)),
		shifted: tell(fault.Shift(q.err, q.by)),
		within:  tell(fault.In(q.err, q.step)),
		first:   tell(fault.First(nil, q.err, api.ErrNil)),
	}
}

func (r *rule) questions(n int) []question {
	out := make([]question, n)
	for i := range out {
		out[i] = question{r.tree(r.below(5)).made(), r.number(), r.step(), r.below(14) - 1}
		if i%7 == 0 {
			out[i].err = nil
		}
	}
	return out
}

// R1, R5: anything at all, in any order, and several at a time.
func TestSame(t *testing.T) {
	r := rule{163}
	questions := r.questions(3000)
	var first []answer
	for _, q := range questions {
		first = append(first, ask(q))
	}
	for i, q := range slices.Backward(questions) {
		if ask(q) != first[i] {
			t.Errorf("what was asked before makes a difference: %v", q)
		}
	}
	var wait sync.WaitGroup
	for range 4 {
		wait.Go(func() {
			for i, q := range questions {
				if ask(q) != first[i] {
					t.Errorf("what is asked at the same time makes a difference: %v", q)
				}
			}
		})
	}
	wait.Wait()
}

// R2: nothing beside a false.
func TestNothingBeside(t *testing.T) {
	f := &api.Fault{Err: api.ErrInput, At: 7, Path: "/a"}
	for _, err := range []error{nil, api.ErrArg, (*api.Fault)(nil), errors.Join((*api.Fault)(nil), f), lends{f, false}, breaks{f}} {
		at, ok := fault.At(err)
		path, fine := fault.Path(err)
		if at != 0 || ok || path != "" || fine {
			t.Errorf("%v: %d, %v, %q, %v", err, at, ok, path, fine)
		}
	}
}

// breaks panics when it is asked what it is or has, and has set what it was asked for by then.
type breaks struct{ f *api.Fault }

func (b breaks) Error() string { panic("no text") }
func (b breaks) Is(error) bool { panic("not told") }
func (b breaks) As(target any) bool {
	if p, ok := target.(**api.Fault); ok {
		*p = b.f
	}
	panic("not told")
}

// bursts panics when it is asked what it wraps.
type bursts struct{}

func (bursts) Error() string { panic("no text") }
func (bursts) Unwrap() error { panic("not told") }

// odd is an error that cannot be held against another one of its kind.
type odd []int

func (odd) Error() string { return "odd" }

// R1: errors that panic when they are asked are none of api's and have no Fault.
func TestNoPanic(t *testing.T) {
	f := &api.Fault{Err: api.ErrInput, At: 7, Path: "/a"}
	var number *strconv.NumError
	for i, err := range []error{breaks{f}, &breaks{f}, (*breaks)(nil), bursts{}, number, &wrap{number}, (*wrap)(nil), (*both)(nil), odd{1}, &wrap{odd{1}}} {
		what := fmt.Sprint("error ", i)
		check(t, what, err, told{code: -1})
		checkOne(t, what+", shifted", fault.Shift(err, 1), told{code: -1})
		checkOne(t, what+", within", fault.In(err, "a"), told{-1, 0, "/a", true})
		if fault.First(nil, err) == nil {
			t.Errorf("%s: First answers nil", what)
		}
	}
	// What is found ahead of the panic holds.
	check(t, "a Fault around one that panics", &api.Fault{Err: bursts{}, At: 1, Path: "/b"}, told{-1, 1, "/b", true})
	check(t, "a Fault ahead of one that panics", errors.Join(f, bursts{}), told{3, 7, "/a", true})
	check(t, "the first error ahead of one that panics", errors.Join(api.ErrArg, bursts{}), told{code: 1})
}

// P13.4, R4: what is handed in is as it was, and the answer stays as it is when that is written over.
func TestHandedIn(t *testing.T) {
	r := rule{167}
	for range 5000 {
		f := &api.Fault{Err: r.leaf().made(), At: r.number(), Path: r.path()}
		was := *f
		by, step := r.number(), r.step()
		a, b := fault.Shift(f, by), fault.In(f, step)
		c, d := fault.Shift(&wrap{f}, by), fault.In(errors.Join(f), step)
		if *f != was {
			t.Errorf("%+v was %+v", *f, was)
		}
		want := tell(f)
		*f = api.Fault{Err: errors.Join(api.ErrArg, api.ErrScript), At: r.number(), Path: "/later"}
		checkOne(t, "Shift", a, want.shifted(by))
		checkOne(t, "In", b, want.within(step))
		checkOne(t, "Shift of one wrapped", c, want.shifted(by))
		checkOne(t, "In of one joined", d, want.within(step))
		if t.Failed() {
			break
		}
	}
}

// P13.4, R4: what the Fault handed in wraps is not kept either, nor is an error that has no Fault.
func TestWrappedLater(t *testing.T) {
	for _, e := range []error{errors.New("another"), api.ErrBusy, errors.Join(api.ErrBusy, api.ErrKey)} {
		inner := &wrap{e}
		list := &both{[]error{inner}}
		f := &api.Fault{Err: list, At: 3, Path: "/f"}
		want := tell(f)
		code := want.code
		a, b := fault.Shift(f, 1), fault.In(f, "s")
		c, d := fault.Shift(inner, 1), fault.In(list, "s")
		inner.inner = &api.Fault{Err: api.ErrArg, At: 9, Path: "/later"}
		list.inner[0] = api.ErrArg
		checkOne(t, "Shift", a, want.shifted(1))
		checkOne(t, "In", b, want.within("s"))
		checkOne(t, "Shift without a Fault", c, told{code: code})
		checkOne(t, "In without a Fault", d, told{code, 0, "/s", true})
	}
}

// P13.5, R4: the list that First is handed is as it was, its spare room too.
func TestFirstHandedIn(t *testing.T) {
	f, g := fault.New(3, 1, "/f"), fault.New(4, 2, "/g")
	room := []error{nil, nil, f, g, api.ErrArg, nil}
	was := slices.Clone(room)
	for n := range len(room) + 1 {
		fault.First(room[:n]...)
		fault.First(room[n:]...)
		if !slices.Equal(room, was) {
			t.Errorf("the list is %v, was %v", room, was)
		}
	}
	check(t, "f", f, told{3, 1, "/f", true})
}

// R4: each answer is memory of its own: writing one over changes no other one, nor what was handed in.
func TestOwnMemory(t *testing.T) {
	f := &api.Fault{Err: api.ErrInput, At: 7, Path: "/a"}
	other := errors.New("another")
	calls := []func() error{
		func() error { return fault.New(3, 7, "/a") },
		func() error { return fault.Shift(f, 0) },
		func() error { return fault.Shift(f, 1) },
		func() error { return fault.In(f, "") },
		func() error { return fault.In(api.ErrNone, "k") },
		func() error { return fault.In(other, "k") },
	}
	for i, call := range calls {
		first, second := call(), call()
		want := tell(second)
		var p *api.Fault
		if !errors.As(first, &p) {
			t.Fatalf("call %d: no Fault", i)
		}
		*p = api.Fault{Err: api.ErrKey, At: -1, Path: "/written over"}
		check(t, fmt.Sprint("call ", i, ", second answer"), second, want)
		check(t, fmt.Sprint("call ", i, ", third answer"), call(), want)
		check(t, "F", f, told{3, 7, "/a", true})
	}
}

// R1: long steps and long paths.
func TestLong(t *testing.T) {
	step := strings.Repeat("~/a\xff", 1<<18)
	want := "/" + strings.Repeat("~0~1a\xff", 1<<18)
	err := fault.In(fault.In(fault.New(9, 1, ""), step), step)
	path, ok := fault.Path(err)
	if !ok || path != want+want {
		t.Errorf("a long step is written otherwise")
	}
	l := make([]error, 1<<20)
	if fault.First(l...) != nil || fault.First(append(l, api.ErrKey)...) != api.ErrKey {
		t.Errorf("First of a long list")
	}
}
