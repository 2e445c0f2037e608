package fault_test

import (
	"errors"
	"fmt"
	"math"
	"slices"
	"strconv"
	"strings"
	"testing"

	"crucible/api"
	"crucible/fault"
)

// errorOf is the error of a number, as the document's table has them; nil, if the number has none.
func errorOf(number int) error {
	switch number {
	case 1:
		return api.ErrArg
	case 2:
		return api.ErrNil
	case 3:
		return api.ErrInput
	case 4:
		return api.ErrRep
	case 5:
		return api.ErrLimit
	case 6:
		return api.ErrNone
	case 7:
		return api.ErrBusy
	case 8:
		return api.ErrHandle
	case 9:
		return api.ErrKey
	case 10:
		return api.ErrStopped
	case 11:
		return api.ErrScript
	}
	return nil
}

const greatest = 11

// told is what an error tells: its number and, if placed, its place.
type told struct {
	code, at int
	path     string
	placed   bool
}

// check asks all three calls what err tells.
func check(t *testing.T, what string, err error, want told) {
	t.Helper()
	code := fault.Code(err)
	at, ok := fault.At(err)
	path, fine := fault.Path(err)
	if got := (told{code, at, path, ok}); got != want || fine != ok {
		t.Errorf("%s: %+v, %v; want %+v", what, got, fine, want)
	}
}

// checkOne asks besides whether err is the one error of its number and no other one, and whether its text can be asked for.
func checkOne(t *testing.T, what string, err error, want told) {
	t.Helper()
	check(t, what, err, want)
	if err == nil {
		t.Errorf("%s: nil", what)
		return
	}
	for number := 1; number <= greatest; number++ {
		if errors.Is(err, errorOf(number)) != (number == want.code) {
			t.Errorf("%s: that it is the error %d is %v", what, number, number != want.code)
		}
	}
	var f *api.Fault
	if errors.As(err, &f) != want.placed {
		t.Errorf("%s: errors.As finds a Fault: %v", what, f != nil)
	}
	_ = err.Error()
}

// wrap is an error around another one.
type wrap struct{ inner error }

func (w *wrap) Error() string { return "wrap" }
func (w *wrap) Unwrap() error { return w.inner }

// both is an error around several.
type both struct{ inner []error }

func (b *both) Error() string   { return "both" }
func (b *both) Unwrap() []error { return b.inner }

// seems says itself which errors it is.
type seems struct{ numbers []int }

func (s seems) Error() string { return "seems" }
func (s seems) Is(e error) bool {
	return slices.ContainsFunc(s.numbers, func(n int) bool { return errorOf(n) == e })
}

// lends says itself which Fault it has, and whether it has one.
type lends struct {
	f  *api.Fault
	ok bool
}

func (l lends) Error() string { return "lends" }
func (l lends) As(target any) bool {
	if p, ok := target.(**api.Fault); ok {
		*p = l.f
		return l.ok
	}
	return false
}

// tree is an error that is yet to be made: kids, or a leaf; with a Fault around it, or a nil one in its stead.
type tree struct {
	number int // of a leaf: which error; 0 an error from elsewhere
	shape  shape
	at     int
	path   string
	kids   []tree
}

type shape int

const (
	leaf    shape = iota
	gone          // a nil *api.Fault
	empty         // a Fault that wraps nil
	placed        // a Fault around a kid
	single        // an error around a kid
	printed       // fmt's error around a kid
	joined        // errors.Join's error around kids
	several       // an error around kids
	shapes
)

func (x tree) made() error {
	var kids []error
	for _, k := range x.kids {
		kids = append(kids, k.made())
	}
	switch x.shape {
	case gone:
		return (*api.Fault)(nil)
	case empty:
		return &api.Fault{At: x.at, Path: x.path}
	case placed:
		return &api.Fault{Err: kids[0], At: x.at, Path: x.path}
	case single:
		return &wrap{kids[0]}
	case printed:
		return fmt.Errorf("printed: %w", kids[0])
	case joined:
		return errors.Join(kids...)
	case several:
		return &both{kids}
	}
	if x.number == 0 {
		return errors.New("elsewhere")
	}
	return errorOf(x.number)
}

// least is the least of the numbers of all leaves, -1 if all of them are from elsewhere.
func (x tree) least() int {
	least := -1
	if x.shape == leaf && x.number > 0 {
		least = x.number
	}
	for _, k := range x.kids {
		if n := k.least(); n > 0 && (least < 0 || n < least) {
			least = n
		}
	}
	return least
}

// firstFault is the first Fault that there is, an outer one ahead of those in it, an earlier kid ahead of a later one.
func (x tree) firstFault() (tree, bool) {
	if x.shape == gone || x.shape == empty || x.shape == placed {
		return x, true
	}
	for _, k := range x.kids {
		if f, ok := k.firstFault(); ok {
			return f, true
		}
	}
	return tree{}, false
}

func (x tree) told() told {
	out := told{code: x.least()}
	if f, ok := x.firstFault(); ok && f.shape != gone {
		out.at, out.path, out.placed = f.at, f.path, true
	}
	return out
}

// shifted is what Shift's answer tells, in the words of P13.4.
func (a told) shifted(by int) told {
	if a.placed {
		a.at = int(uint(a.at) + uint(by))
	}
	return a
}

// within is what In's answer tells, in the words of P13.4.
func (a told) within(step string) told {
	a.path = stepOf(step) + a.path
	a.placed = true
	return a
}

// stepOf is a step as it is written, byte by byte.
func stepOf(step string) string {
	out := []byte{'/'}
	for _, b := range []byte(step) {
		switch b {
		case '~':
			out = append(out, '~', '0')
		case '/':
			out = append(out, '~', '1')
		default:
			out = append(out, b)
		}
	}
	return string(out)
}

// stepsOf tells the steps that are written in a path.
func stepsOf(path string) []string {
	var out []string
	for _, s := range strings.Split(path, "/")[1:] {
		out = append(out, strings.ReplaceAll(strings.ReplaceAll(s, "~1", "/"), "~0", "~"))
	}
	return out
}

// rule makes numbers that look like any, the same in each run.
type rule struct{ state uint64 }

func (r *rule) next() uint64 {
	r.state += 0x9e3779b97f4a7c15
	x := r.state
	x = (x ^ x>>30) * 0xbf58476d1ce4e5b9
	x = (x ^ x>>27) * 0x94d049bb133111eb
	return x ^ x>>31
}

func (r *rule) below(n int) int { return int(r.next() % uint64(n)) }

// edges are the numbers about which an int turns.
var edges = []int{0, 1, -1, 2, 7, 255, 1 << 31, -1 << 31, math.MaxInt, math.MaxInt - 1, math.MinInt, math.MinInt + 1}

func (r *rule) number() int {
	if r.below(2) == 0 {
		return edges[r.below(len(edges))]
	}
	return int(r.next())
}

// step is a string of what a step may trip over.
func (r *rule) step() string {
	parts := []string{"~", "/", "0", "1", "a", "~0", "~1", "é", "\xff", "\xc3", "\x00", " ", "-", strconv.Itoa(r.below(300))}
	out := ""
	for range r.below(5) {
		out += parts[r.below(len(parts))]
	}
	return out
}

func (r *rule) path() string {
	out := ""
	for range r.below(4) {
		out += stepOf(r.step())
	}
	if r.below(8) == 0 {
		out += r.step() // what no step was written as stays as it is, too
	}
	return out
}

func (r *rule) leaf() tree { return tree{number: r.below(greatest + 1)} }

// tree makes an error of at most that depth.
func (r *rule) tree(depth int) tree {
	if depth == 0 {
		return r.leaf()
	}
	x := tree{shape: shape(r.below(int(shapes)))}
	kids := 0
	switch x.shape {
	case leaf:
		return r.leaf()
	case empty:
		x.at, x.path = r.number(), r.path()
	case placed:
		x.at, x.path = r.number(), r.path()
		kids = 1
	case single, printed:
		kids = 1
	case joined, several:
		kids = 1 + r.below(3)
	}
	for range kids {
		x.kids = append(x.kids, r.tree(depth-1))
	}
	return x
}
