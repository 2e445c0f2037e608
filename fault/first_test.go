package fault_test

import (
	"errors"
	"fmt"
	"testing"

	"crucible/api"
	"crucible/fault"
)

// P13.5: the chapter's examples.
func TestFirstKnown(t *testing.T) {
	f := &api.Fault{Err: api.ErrInput, At: 7, Path: "/a"}
	j := errors.Join(api.ErrLimit, api.ErrRep)
	none := (*api.Fault)(nil)
	check(t, "First(nil, F, nil, J)", fault.First(nil, f, nil, j), told{3, 7, "/a", true})
	check(t, "First(J, F)", fault.First(j, f), told{code: 4})
	check(t, "First(a nil Fault)", fault.First(none), told{code: -1})
	check(t, "First(nil, a nil Fault, F)", fault.First(nil, none, f), told{code: -1})
	if fault.First(none) == nil || fault.First(nil, none, f) == nil {
		t.Errorf("a nil Fault is taken for no error")
	}
}

// P13.5: nil, where there is no error.
func TestFirstNone(t *testing.T) {
	if err := fault.First(); err != nil {
		t.Errorf("First(): %v", err)
	}
	if err := fault.First(nil...); err != nil {
		t.Errorf("First of a nil list: %v", err)
	}
	for n := range 20 {
		if err := fault.First(make([]error, n)...); err != nil {
			t.Errorf("First of %d nils: %v", n, err)
		}
	}
}

// P13.5: the first, wherever it stands and whatever stands behind.
func TestFirstAny(t *testing.T) {
	errs := []error{errors.New("another"), (*api.Fault)(nil), &api.Fault{}, fault.New(2, 3, "/f"), errors.Join(api.ErrKey, api.ErrArg)}
	for number := 1; number <= greatest; number++ {
		errs = append(errs, errorOf(number))
	}
	for i, err := range errs {
		for ahead := range 6 {
			for behind := range 4 {
				l := make([]error, ahead)
				l = append(l, err)
				for k := range behind {
					l = append(l, []error{nil, errs[(i+k+1)%len(errs)]}[k%2])
				}
				if fault.First(l...) != err {
					t.Errorf("First of %s behind %d nils, with %d behind: %v", fmt.Sprint(err), ahead, behind, fault.First(l...))
				}
			}
		}
	}
}
