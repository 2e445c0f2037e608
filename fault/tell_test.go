package fault_test

import (
	"errors"
	"fmt"
	"math"
	"testing"

	"crucible/api"
	"crucible/fault"
)

// P13.1, P13.2: the chapter's examples.
func TestTellKnown(t *testing.T) {
	f := &api.Fault{Err: api.ErrInput, At: 7, Path: "/a"}
	check(t, "nil", nil, told{})
	check(t, "ErrArg", api.ErrArg, told{code: 1})
	check(t, "F", f, told{3, 7, "/a", true})
	check(t, "J", errors.Join(api.ErrLimit, api.ErrRep), told{code: 4})
	check(t, "another", errors.New("another"), told{code: -1})
	check(t, "a nil Fault", (*api.Fault)(nil), told{code: -1})
}

// P13.1, P13.2: each error in each of the ways in which it can be held.
func TestTellEach(t *testing.T) {
	other := errors.New("another")
	for number := 1; number <= greatest; number++ {
		e := errorOf(number)
		check(t, fmt.Sprint(number, " by itself"), e, told{code: number})
		check(t, fmt.Sprint(number, " wrapped"), &wrap{e}, told{code: number})
		check(t, fmt.Sprint(number, " wrapped twice"), fmt.Errorf("out: %w", &wrap{e}), told{code: number})
		check(t, fmt.Sprint(number, " beside another"), errors.Join(other, e), told{code: number})
		check(t, fmt.Sprint(number, " beside nil"), &both{[]error{nil, e}}, told{code: number})
		check(t, fmt.Sprint(number, " by what it says"), seems{[]int{number}}, told{code: number})
		f := &api.Fault{Err: e, At: 10 * number, Path: "/x"}
		want := told{number, 10 * number, "/x", true}
		check(t, fmt.Sprint(number, " in a Fault"), f, want)
		check(t, fmt.Sprint(number, " in a Fault, wrapped"), &wrap{f}, want)
		check(t, fmt.Sprint(number, " in a Fault, wrapped twice"), &wrap{fmt.Errorf("in: %w", f)}, want)
		check(t, fmt.Sprint(number, " in a Fault of an error around it"), &api.Fault{Err: &wrap{e}, At: 10 * number, Path: "/x"}, want)
		check(t, fmt.Sprint(number, " in a Fault in a Fault"), &api.Fault{Err: f, At: 1, Path: "/y"}, told{number, 1, "/y", true})
	}
}

// P13.1: of two errors the one with the lesser number, whichever stands first or deeper.
func TestTellLeast(t *testing.T) {
	for a := 1; a <= greatest; a++ {
		for b := 1; b <= greatest; b++ {
			want := told{code: min(a, b)}
			check(t, fmt.Sprint(a, b, " joined"), errors.Join(errorOf(a), errorOf(b)), want)
			check(t, fmt.Sprint(a, b, " with one deeper"), errors.Join(&wrap{&wrap{errorOf(a)}}, errorOf(b)), want)
			check(t, fmt.Sprint(a, b, " printed"), fmt.Errorf("%w, %w", errorOf(a), errorOf(b)), want)
			check(t, fmt.Sprint(a, b, " by what it says"), seems{[]int{a, b}}, want)
			in := errors.Join(&api.Fault{Err: errorOf(a), At: a, Path: "/a"}, &api.Fault{Err: errorOf(b), At: -b, Path: "/b"})
			check(t, fmt.Sprint(a, b, " in two Faults"), in, told{min(a, b), a, "/a", true})
		}
	}
}

// P13.1: an error whose text is that of one of api's is none of them.
func TestTellByIdentity(t *testing.T) {
	for number := 1; number <= greatest; number++ {
		check(t, fmt.Sprint(number, "'s text"), errors.New(errorOf(number).Error()), told{code: -1})
	}
}

// P13.2: which Fault is an error's.
func TestTellFault(t *testing.T) {
	none := (*api.Fault)(nil)
	f := &api.Fault{Err: api.ErrKey, At: 5, Path: "/k"}
	check(t, "a Fault of nothing", &api.Fault{At: 2, Path: "/z"}, told{-1, 2, "/z", true})
	check(t, "an empty Fault", &api.Fault{}, told{code: -1, placed: true})
	check(t, "a Fault of another", &api.Fault{Err: errors.New("another"), At: 3}, told{-1, 3, "", true})
	check(t, "a nil Fault, wrapped", &wrap{none}, told{code: -1})
	check(t, "a nil Fault ahead of a Fault", errors.Join(none, f), told{code: 9})
	check(t, "a nil Fault behind a Fault", errors.Join(f, none), told{9, 5, "/k", true})
	check(t, "a Fault around a nil Fault", &api.Fault{Err: none, At: 4, Path: "/n"}, told{-1, 4, "/n", true})
	check(t, "a Fault that is lent", lends{f, true}, told{-1, 5, "/k", true})
	check(t, "a Fault that is not lent after all", lends{f, false}, told{code: -1})
	check(t, "a nil Fault that is lent", lends{nil, true}, told{code: -1})
	check(t, "a place at the ends", &api.Fault{Err: api.ErrArg, At: math.MinInt}, told{1, math.MinInt, "", true})
	check(t, "a place at the ends", &api.Fault{Err: api.ErrArg, At: math.MaxInt, Path: "~\xff"}, told{1, math.MaxInt, "~\xff", true})
}

// P13.1, P13.2: errors of any build.
func TestTellAny(t *testing.T) {
	r := rule{131}
	seen := map[told]bool{}
	for range 40000 {
		x := r.tree(r.below(6))
		want := x.told()
		seen[told{code: want.code, placed: want.placed}] = true
		check(t, fmt.Sprintf("%+v", x), x.made(), want)
		if t.Failed() {
			break
		}
	}
	for code := -1; code <= greatest; code++ {
		if code != 0 && (!seen[told{code: code}] || !seen[told{code: code, placed: true}]) {
			t.Errorf("nothing of code %d was looked at", code)
		}
	}
}

// P13.1: errors nested as deeply as the document's bound has it.
func TestTellDeep(t *testing.T) {
	var err error = &api.Fault{Err: api.ErrStopped, At: 1, Path: "/d"}
	for range 1<<16 - 2 {
		err = &wrap{err}
	}
	check(t, "deep", err, told{10, 1, "/d", true})
	checkOne(t, "deep, shifted", fault.Shift(err, 1), told{10, 2, "/d", true})
}
