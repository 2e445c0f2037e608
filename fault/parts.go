package fault

import (
	"errors"
	"strings"

	"crucible/api"
)

// errOther stands for every error that is none of api's: what came in may be changed later, so it is not kept.
var errOther = errors.New("an error from elsewhere")

// numbered tells the errors of the numbers 1, 2 and so on.
func numbered() [11]error {
	return [11]error{
		api.ErrArg,
		api.ErrNil,
		api.ErrInput,
		api.ErrRep,
		api.ErrLimit,
		api.ErrNone,
		api.ErrBusy,
		api.ErrHandle,
		api.ErrKey,
		api.ErrStopped,
		api.ErrScript,
	}
}

// is tells whether err is e. An error from elsewhere may panic when it is asked (a nil pointer, say): it is not e then.
func is(err, e error) (yes bool) {
	defer func() { _ = recover() }()
	return errors.Is(err, e)
}

// found copies the Fault of an error: later changes of the Fault itself do not reach the copy. An error that panics has none.
func found(err error) (f api.Fault, ok bool) {
	defer func() { _ = recover() }()
	var p *api.Fault
	if !errors.As(err, &p) || p == nil {
		return api.Fault{}, false
	}
	return *p, true
}

// bare is the error of api that an error is, with nothing else that it wraps.
func bare(err error) error {
	if n := Code(err); n > 0 {
		return numbered()[n-1]
	}
	return errOther
}

// written is a step as it stands in a path. The ~ goes first, for a / brings in a ~ of its own.
func written(step string) string {
	return "/" + strings.ReplaceAll(strings.ReplaceAll(step, "~", "~0"), "/", "~1")
}
