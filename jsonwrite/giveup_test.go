package jsonwrite

import (
	"errors"
	"testing"

	"crucible/api"
)

// Why a value was refused is told as it was said.
func TestReasonOf(t *testing.T) {
	for _, reason := range []error{api.ErrLimit, &api.Fault{Err: api.ErrRep, Path: "/0"}, &api.Fault{Err: api.ErrArg}} {
		func() {
			defer func() {
				if got := reasonOf(recover()); got != reason {
					t.Errorf("%v of %v", got, reason)
				}
			}()
			refuseFor(reason)
			t.Errorf("gone on behind %v", reason)
		}()
	}
	refuseFor(nil)
}

// Any other panic goes on as the one that it was.
func TestOtherPanics(t *testing.T) {
	for _, caught := range []any{"a text", 7, api.ErrRep, errors.New("another"), &api.Fault{Err: api.ErrLimit}, api.VNull} {
		func() {
			defer func() {
				if got := recover(); got != caught {
					t.Errorf("%v went on as %v", caught, got)
				}
			}()
			t.Errorf("%v was taken for the reason %v", caught, reasonOf(caught))
		}()
	}
}

// Just the kinds that JSON has are written.
func TestWaysOfKinds(t *testing.T) {
	l := ways()
	for kind := api.VNone - 1; kind <= api.VExt+1; kind++ {
		_, ok := l[kind]
		want := kind >= api.VNull && kind <= api.VMap && kind != api.VBytes
		if ok != want {
			t.Errorf("kind %d: %v", kind, ok)
		}
	}
}
