package fault_test

import (
	"fmt"
	"slices"
	"strings"
	"testing"

	"crucible/fault"
)

func tell(err error) told {
	at, ok := fault.At(err)
	path, _ := fault.Path(err)
	return told{fault.Code(err), at, path, ok}
}

// P13.6: what New makes is told.
func TestNewIsTold(t *testing.T) {
	r := rule{139}
	for range 20000 {
		want := told{1 + r.below(greatest), r.number(), r.path(), true}
		checkOne(t, fmt.Sprintf("New of %+v", want), fault.New(want.code, want.at, want.path), want)
		if t.Failed() {
			break
		}
	}
}

// P13.6: to shift by a and then by b is to shift by both; by 0 changes nothing that is told.
func TestShiftTwice(t *testing.T) {
	r := rule{149}
	for range 20000 {
		err, a, b := r.tree(r.below(4)).made(), r.number(), r.number()
		twice, once := fault.Shift(fault.Shift(err, a), b), fault.Shift(err, a+b)
		if tell(twice) != tell(once) {
			t.Errorf("Shift of %v by %d, then %d: %+v; by both %+v", err, a, b, tell(twice), tell(once))
		}
		if still := fault.Shift(err, 0); tell(still) != tell(err) {
			t.Errorf("Shift of %v by 0: %+v", err, tell(still))
		}
		if t.Failed() {
			break
		}
	}
}

// P13.6: the steps stand ahead, in their order, if the last is put in first; and they can be told from what is written.
func TestInAll(t *testing.T) {
	r := rule{151}
	for range 20000 {
		var steps []string
		for range r.below(6) {
			steps = append(steps, r.step())
		}
		tail := r.path()
		err, want := fault.New(3, 40, tail), ""
		for _, s := range slices.Backward(steps) {
			err = fault.In(err, s)
		}
		for _, s := range steps {
			want += stepOf(s)
		}
		checkOne(t, fmt.Sprintf("In with all of %q", steps), err, told{3, 40, want + tail, true})
		path, _ := fault.Path(err)
		written, ok := strings.CutSuffix(path, tail)
		if got := stepsOf(written); !ok || !slices.Equal(got, steps) {
			t.Errorf("%q is written as %q, in which %q stands", steps, written, got)
		}
		if t.Failed() {
			break
		}
	}
}

// P13.6: no two lists of steps are written alike; here all of at most three steps of at most two bytes.
func TestInApart(t *testing.T) {
	steps := []string{""}
	for _, a := range "~/01" {
		steps = append(steps, string(a))
		for _, b := range "~/01" {
			steps = append(steps, string(a)+string(b))
		}
	}
	seen := map[string]bool{}
	lists := 0
	note := func(err error) {
		path, _ := fault.Path(err)
		seen[path] = true
		lists++
	}
	for _, a := range steps {
		one := fault.In(fault.New(1, 0, ""), a)
		note(one)
		for _, b := range steps {
			two := fault.In(one, b)
			note(two)
			for _, c := range steps {
				note(fault.In(two, c))
			}
		}
	}
	if len(seen) != lists {
		t.Errorf("%d lists of steps are written in %d ways", lists, len(seen))
	}
}

// P13.6: Shift does not touch the path, nor In the place: which of them comes first makes no difference where there is a place.
func TestMovesApart(t *testing.T) {
	r := rule{157}
	for range 20000 {
		x, by, step := r.tree(r.below(4)), r.number(), r.step()
		err := x.made()
		was := tell(err)
		if s := tell(fault.Shift(err, by)); s.path != was.path || s.code != was.code {
			t.Errorf("Shift of %v: %+v", err, s)
		}
		if in := tell(fault.In(err, step)); in.at != was.at || in.code != was.code {
			t.Errorf("In of %v: %+v", err, in)
		}
		a, b := fault.In(fault.Shift(err, by), step), fault.Shift(fault.In(err, step), by)
		if was.placed && tell(a) != tell(b) {
			t.Errorf("%v by %d and with %q: %+v, the other way round %+v", err, by, step, tell(a), tell(b))
		}
		if t.Failed() {
			break
		}
	}
}
