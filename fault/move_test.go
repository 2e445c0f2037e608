package fault_test

import (
	"errors"
	"fmt"
	"math"
	"testing"

	"crucible/api"
	"crucible/fault"
)

// P13.4: the chapter's examples.
func TestMoveKnown(t *testing.T) {
	f := &api.Fault{Err: api.ErrInput, At: 7, Path: "/a"}
	checkOne(t, "Shift(F, 5)", fault.Shift(f, 5), told{3, 12, "/a", true})
	checkOne(t, "Shift(F, greatest)", fault.Shift(f, math.MaxInt64), told{3, -9223372036854775802, "/a", true})
	checkOne(t, "Shift(ErrArg, 5)", fault.Shift(api.ErrArg, 5), told{code: 1})
	checkOne(t, "In(F, 0)", fault.In(f, "0"), told{3, 7, "/0/a", true})
	checkOne(t, "In(F, x/y~z)", fault.In(f, "x/y~z"), told{3, 7, "/x~1y~0z/a", true})
	checkOne(t, "In(F, no name)", fault.In(f, ""), told{3, 7, "//a", true})
	checkOne(t, "In(ErrNone, k)", fault.In(api.ErrNone, "k"), told{6, 0, "/k", true})
	other := &api.Fault{Err: errors.New("another"), At: 1}
	checkOne(t, "Shift of another", fault.Shift(other, 1), told{-1, 2, "", true})
}

// P13.4: nil stays nil.
func TestMoveNil(t *testing.T) {
	for _, by := range edges {
		if err := fault.Shift(nil, by); err != nil {
			t.Errorf("Shift(nil, %d): %v", by, err)
		}
	}
	for _, step := range []string{"", "a", "~", "/"} {
		if err := fault.In(nil, step); err != nil {
			t.Errorf("In(nil, %q): %v", step, err)
		}
	}
}

// P13.4: places that wrap round at either end, and such as do not.
func TestShiftRound(t *testing.T) {
	known := []struct{ at, by, want int }{
		{math.MaxInt, 1, math.MinInt},
		{math.MinInt, -1, math.MaxInt},
		{math.MaxInt, math.MaxInt, -2},
		{math.MinInt, math.MinInt, 0},
		{math.MaxInt, math.MinInt, -1},
		{math.MinInt, math.MaxInt, -1},
		{-1, math.MinInt, math.MaxInt},
		{0, math.MinInt, math.MinInt},
		{0, math.MaxInt, math.MaxInt},
		{5, -7, -2},
		{-5, 7, 2},
		{9, 0, 9},
		{0, 0, 0},
	}
	for _, k := range known {
		f := &api.Fault{Err: api.ErrRep, At: k.at, Path: "/p"}
		checkOne(t, fmt.Sprint("Shift of ", k.at, " by ", k.by), fault.Shift(f, k.by), told{4, k.want, "/p", true})
	}
	for _, at := range edges {
		for _, by := range edges {
			a := told{8, at, "", true}
			checkOne(t, fmt.Sprint("Shift of ", at, " by ", by), fault.Shift(fault.New(8, at, ""), by), a.shifted(by))
		}
	}
}

// P13.4: of an error without a Fault Shift answers one without.
func TestShiftWithout(t *testing.T) {
	none := (*api.Fault)(nil)
	for _, by := range edges {
		for number := 1; number <= greatest; number++ {
			e := errorOf(number)
			checkOne(t, fmt.Sprint("Shift of ", number), fault.Shift(e, by), told{code: number})
			checkOne(t, fmt.Sprint("Shift of ", number, " wrapped"), fault.Shift(&wrap{e}, by), told{code: number})
			err := errors.Join(e, api.ErrScript)
			checkOne(t, fmt.Sprint("Shift of ", number, " joined"), fault.Shift(err, by), told{code: number})
			ahead := fault.Shift(errors.Join(none, fault.New(number, 1, "/a")), by)
			checkOne(t, fmt.Sprint("Shift of a nil Fault ahead of ", number), ahead, told{code: number})
		}
		checkOne(t, "Shift of another", fault.Shift(errors.New("another"), by), told{code: -1})
		checkOne(t, "Shift of a nil Fault", fault.Shift(none, by), told{code: -1})
		checkOne(t, "Shift of a nil Fault, wrapped", fault.Shift(&wrap{none}, by), told{code: -1})
	}
}

// P13.4: of an error without a Fault In answers one with 0 and the step alone.
func TestInWithout(t *testing.T) {
	none := (*api.Fault)(nil)
	for number := 1; number <= greatest; number++ {
		e := errorOf(number)
		checkOne(t, fmt.Sprint("In of ", number), fault.In(e, "s"), told{number, 0, "/s", true})
		checkOne(t, fmt.Sprint("In of ", number, " wrapped"), fault.In(&wrap{e}, ""), told{number, 0, "/", true})
		err := errors.Join(api.ErrScript, e)
		checkOne(t, fmt.Sprint("In of ", number, " joined"), fault.In(err, "/"), told{number, 0, "/~1", true})
		ahead := fault.In(errors.Join(none, fault.New(number, 1, "/a")), "~")
		checkOne(t, fmt.Sprint("In of a nil Fault ahead of ", number), ahead, told{number, 0, "/~0", true})
	}
	checkOne(t, "In of another", fault.In(errors.New("another"), "s"), told{-1, 0, "/s", true})
	checkOne(t, "In of a nil Fault", fault.In(none, "s"), told{-1, 0, "/s", true})
	checkOne(t, "In of a nil Fault, wrapped", fault.In(&wrap{none}, "s"), told{-1, 0, "/s", true})
}

// P13.4: how steps are written.
func TestInSteps(t *testing.T) {
	known := []struct{ step, want string }{
		{"", "/"},
		{"~", "/~0"},
		{"/", "/~1"},
		{"~/", "/~0~1"},
		{"/~", "/~1~0"},
		{"~0", "/~00"},
		{"~1", "/~01"},
		{"~01", "/~001"},
		{"~~//~", "/~0~0~1~1~0"},
		{"0", "/0"},
		{"-", "/-"},
		{" é😀\t\"\\", "/ é😀\t\"\\"},
		{"\xff~\xc3/\x00\x80", "/\xff~0\xc3~1\x00\x80"},
	}
	for _, k := range known {
		f := fault.New(5, -3, "/a~1/")
		checkOne(t, fmt.Sprintf("In(%q)", k.step), fault.In(f, k.step), told{5, -3, k.want + "/a~1/", true})
	}
	for b := range 256 {
		step := string([]byte{byte(b)})
		checkOne(t, fmt.Sprintf("In(%q)", step), fault.In(fault.New(5, b, ""), step), told{5, b, stepOf(step), true})
	}
}

// P13.4: errors of any build.
func TestMoveAny(t *testing.T) {
	r := rule{137}
	for range 30000 {
		x, by, step := r.tree(r.below(6)), r.number(), r.step()
		want := x.told()
		checkOne(t, fmt.Sprintf("Shift of %+v by %d", x, by), fault.Shift(x.made(), by), want.shifted(by))
		checkOne(t, fmt.Sprintf("In of %+v with %q", x, step), fault.In(x.made(), step), want.within(step))
		if t.Failed() {
			break
		}
	}
}

// P13.4: an error that says itself what it is and has: the answer is the one error, with the place.
func TestMoveSaid(t *testing.T) {
	checkOne(t, "Shift of several", fault.Shift(seems{[]int{9, 5}}, 1), told{code: 5})
	checkOne(t, "In of several", fault.In(seems{[]int{9, 5}}, "a"), told{5, 0, "/a", true})
	f := &api.Fault{Err: api.ErrKey, At: 5, Path: "/k"}
	checkOne(t, "Shift of a Fault that is lent", fault.Shift(lends{f, true}, 1), told{-1, 6, "/k", true})
	checkOne(t, "In of a Fault that is lent", fault.In(lends{f, true}, "a"), told{-1, 5, "/a/k", true})
	checkOne(t, "In of a Fault that is not lent", fault.In(lends{f, false}, "a"), told{-1, 0, "/a", true})
	two := errors.Join(seems{[]int{2}}, lends{f, true}, api.ErrRep)
	checkOne(t, "Shift of both", fault.Shift(two, -5), told{2, 0, "/k", true})
}
