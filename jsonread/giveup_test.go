package jsonread

import (
	"errors"
	"testing"

	"crucible/api"
)

// wrapped is an error that wraps another one.
type wrapped struct{ error }

func (w wrapped) Unwrap() error { return w.error }

// What a reader gave up with is answered if there is a fault in it.
func TestFaultOf(t *testing.T) {
	f := &api.Fault{Err: api.ErrInput, At: 7}
	for _, caught := range []any{f, wrapped{f}, wrapped{wrapped{f}}} {
		if got := faultOf(caught); got != error(f) {
			t.Errorf("%v of %v", got, caught)
		}
	}
}

// Anything else goes on as the panic that it was.
func TestOtherPanics(t *testing.T) {
	for _, caught := range []any{"a text", 7, api.ErrInput, errors.New("another"), wrapped{api.ErrLimit}, api.Value{}.Kind} {
		func() {
			defer func() {
				if got := recover(); got != caught {
					t.Errorf("%v went on as %v", caught, got)
				}
			}()
			t.Errorf("%v was answered as %v", caught, faultOf(caught))
		}()
	}
	// One from the language itself is such.
	defer func() {
		if recover() == nil {
			t.Error("a panic of the language was kept back")
		}
	}()
	defer func() { _ = faultOf(recover()) }()
	r := reader{s: ""}
	r.value()
}
