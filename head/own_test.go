package head_test

import (
	"bytes"
	"errors"
	"slices"
	"strings"
	"sync"
	"testing"
	"unsafe"

	"crucible/api"
	"crucible/head"
)

type question struct {
	s     string
	at    int
	major uint8
	width int
	arg   uint64
}

type answer struct {
	read           api.Head
	which, place   int
	written, float string
	oks            [2]bool
}

// kind is which error it is and what place it tells.
func kind(err error) (which, at int) {
	var fault *api.Fault
	if errors.As(err, &fault) {
		at = fault.At
	}
	switch {
	case err == nil:
		return 0, at
	case just(err, api.ErrArg):
		return 1, at
	case just(err, api.ErrInput):
		return 3, at
	}
	return -1, at
}

func ask(q question) (a answer) {
	var err error
	a.read, err = head.Read(q.s, q.at)
	a.which, a.place = kind(err)
	a.written, a.oks[0] = head.Write(q.major, q.arg)
	a.float, a.oks[1] = head.Float(q.width, q.arg)
	return a
}

func (r *rule) questions(n int) []question {
	out := make([]question, n)
	for i := range out {
		s := r.bytes(14)
		if r.below(2) == 0 {
			s = r.head()
		}
		width := []int{16, 32, 64, r.below(80), int(r.next())}[r.below(5)]
		out[i] = question{s, r.below(len(s)+6) - 3, uint8(r.below(10)), width, r.arg()}
		if r.below(8) == 0 {
			out[i].at, out[i].major = int(r.next()), uint8(r.next())
		}
	}
	return out
}

// R1, R5: anything at all, in any order, and several at a time.
func TestSame(t *testing.T) {
	r := rule{71}
	questions := r.questions(4000)
	var first []answer
	for _, q := range questions {
		first = append(first, ask(q))
	}
	for i, q := range slices.Backward(questions) {
		if ask(q) != first[i] {
			t.Errorf("what was asked before makes a difference: %v", q)
		}
	}
	var wait sync.WaitGroup
	for range 4 {
		wait.Go(func() {
			for i, q := range questions {
				if ask(q) != first[i] {
					t.Errorf("what is asked at the same time makes a difference: %v", q)
				}
			}
		})
	}
	wait.Wait()
}

// R2: nothing beside a false or an error, no error but those that the chapter names, and ErrArg ahead of ErrInput.
func TestNothingBeside(t *testing.T) {
	r := rule{73}
	for _, q := range r.questions(100000) {
		a := ask(q)
		if !a.oks[0] && a.written != "" || !a.oks[1] && a.float != "" {
			t.Errorf("Write(%d, %d), Float(%d, %d) = % x, % x, %v", q.major, q.arg, q.width, q.arg, a.written, a.float, a.oks)
		}
		if a.oks[0] && a.written == "" || a.oks[1] && a.float == "" {
			t.Errorf("Write(%d, %d), Float(%d, %d) have no bytes", q.major, q.arg, q.width, q.arg)
		}
		if a.which < 0 || a.which != 0 && a.read != (api.Head{}) || (a.which == 1) != (q.at < 0 || q.at > len(q.s)) || a.which != 3 && a.place != 0 {
			t.Errorf("Read(% x, %d) = %v and the error %d at %d", q.s, q.at, a.read, a.which, a.place)
		}
	}
}

// R4: two faults are two things: what is done with the one is not seen in the other.
func TestOwnFaults(t *testing.T) {
	for _, c := range []struct {
		s         string
		at, place int
	}{{"", 0, 0}, {"\x00\x1c", 1, 1}, {"\x00\x19\x01", 1, 3}, {"\x00", 1, 1}} {
		_, err := head.Read(c.s, c.at)
		var fault *api.Fault
		if !errors.As(err, &fault) {
			t.Fatalf("Read(% x, %d) has no fault", c.s, c.at)
		}
		*fault = api.Fault{Err: api.ErrArg, At: 99, Path: "/1"}
		readFails(t, c.s, c.at, c.place)
	}
}

// R4: the bytes that are handed in stay as they were, and what is done with them later is not seen in an answer.
func TestHandedInStays(t *testing.T) {
	r := rule{75}
	for range 5000 {
		given := []byte(r.bytes(3) + r.head() + r.bytes(3))
		before := bytes.Clone(given)
		s := unsafe.String(unsafe.SliceData(given), len(given))
		at := r.below(len(given) + 1)
		got, err := head.Read(s, at)
		which, place := kind(err)
		if !bytes.Equal(given, before) {
			t.Fatalf("Read(% x, %d) makes them % x", before, at, given)
		}
		clear(given)
		if h, wrong, there := reference(string(before), at); got != h || (wrong != nil) != (which == 3) || place != there {
			t.Errorf("Read(% x, %d) = %v and the error %d at %d", before, at, got, which, place)
		}
	}
}

// R4: one answer stays as it is when others are made.
func TestAnswersStay(t *testing.T) {
	var written, float []string
	for _, arg := range edges() {
		s, _ := head.Write(3, arg)
		f, _ := head.Float(64, arg)
		written, float = append(written, s), append(float, f)
	}
	for i, arg := range edges() {
		all := forms(3, arg)
		if written[i] != all[0] || float[i] != "\xfb"+all[len(all)-1][1:] {
			t.Errorf("of %d they are % x and % x now", arg, written[i], float[i])
		}
	}
}

// R1: a long text is not gone through for each of many heads in it.
func TestManyInALongText(t *testing.T) {
	s := strings.Repeat("\x19\x01\x00", 1<<20)
	for at := 0; at < len(s); at += 3 {
		if h, err := head.Read(s, at); h != (api.Head{Info: 25, Arg: 256, Size: 3}) || err != nil {
			t.Fatalf("Read at %d = %v, %v", at, h, err)
		}
	}
	if h, err := head.Read(s, len(s)); h != (api.Head{}) || !isInput(err, len(s)) {
		t.Errorf("Read at the end = %v, %v", h, err)
	}
}
