package packread_test

import (
	"bytes"
	"errors"
	"slices"
	"strings"
	"sync"
	"testing"
	"unsafe"

	"crucible/api"
	"crucible/packread"
)

type answer struct {
	read, next         api.Value
	behind             int
	readTold, nextTold told
}

func ask(s string, at int) (a answer) {
	var err error
	a.read, err = packread.Read(s)
	a.readTold = tells(err)
	a.next, a.behind, err = packread.Next(s, at)
	a.nextTold = tells(err)
	return a
}

func (a answer) is(b answer) bool {
	return same(a.read, b.read) && same(a.next, b.next) && a.behind == b.behind && a.readTold == b.readTold && a.nextTold == b.nextTold
}

// R1, R5: anything at all, in any order, and several at a time.
func TestSame(t *testing.T) {
	r := rule{2081}
	var texts []string
	var first []answer
	for range 3000 {
		texts = append(texts, r.anyString(4))
	}
	for _, s := range texts {
		first = append(first, ask(s, len(s)/2))
	}
	for i, s := range slices.Backward(texts) {
		if !ask(s, len(s)/2).is(first[i]) {
			t.Errorf("what was asked before makes a difference: %s", hexed(s))
		}
	}
	var wait sync.WaitGroup
	for range 4 {
		wait.Go(func() {
			for i, s := range texts {
				if !ask(s, len(s)/2).is(first[i]) {
					t.Errorf("what is asked at the same time makes a difference: %s", hexed(s))
				}
			}
		})
	}
	wait.Wait()
}

type span struct{ from, to uintptr }

func spanOf[T any](l []T) span {
	var one T
	from := uintptr(unsafe.Pointer(unsafe.SliceData(l)))
	return span{from, from + uintptr(cap(l))*unsafe.Sizeof(one)}
}

func spanOfText(s string) span {
	from := uintptr(unsafe.Pointer(unsafe.StringData(s)))
	return span{from, from + uintptr(len(s))}
}

// lists are where the lists of a value lie, spare room too.
func lists(v api.Value) []span {
	out := []span{spanOf(v.Int.Mag), spanOf(v.Kids)}
	for _, kid := range v.Kids {
		out = append(out, lists(kid)...)
	}
	return out
}

// texts are where the texts of a value lie.
func texts(v api.Value) []span {
	out := []span{spanOfText(v.Text)}
	for _, kid := range v.Kids {
		out = append(out, texts(kid)...)
	}
	return out
}

// apart: do no two of these share memory?
func apart(all []span) bool {
	all = slices.DeleteFunc(all, func(x span) bool { return x.from == x.to })
	slices.SortFunc(all, func(a, b span) int {
		if a.from < b.from {
			return -1
		}
		return 1
	})
	for i := 1; i < len(all); i++ {
		if all[i].from < all[i-1].to {
			return false
		}
	}
	return true
}

// scribble writes over all memory of a value, its spare room too.
func scribble(v api.Value) {
	mag := v.Int.Mag[:cap(v.Int.Mag)]
	for i := range mag {
		mag[i] ^= 0xa5a5a5a5
	}
	kids := v.Kids[:cap(v.Kids)]
	for i, k := range kids {
		scribble(k)
		kids[i] = api.Value{Kind: 99, N: 99, Text: "written over"}
	}
}

// R4: an answer is new memory: it shares none with what was handed in nor with another answer, nor do two lists in it.
func TestOwnMemory(t *testing.T) {
	r := rule{2082}
	for range 3000 {
		s := strings.Clone(r.made(4, false).s)
		was := strings.Clone(s)
		a, b, want := ask(s, 0), ask(s, 0), ask(was, 0)
		if !apart(slices.Concat(lists(a.read), lists(b.read), lists(a.next), lists(b.next))) {
			t.Errorf("%s: two lists share memory", hexed(s))
		}
		for _, x := range slices.Concat(texts(a.read), texts(a.next)) {
			// One letter may lie in a table of the language's own, never in what was handed in.
			if !apart([]span{x, spanOfText(s)}) {
				t.Errorf("%s: an answer shares memory with what was handed in", hexed(s))
			}
		}
		scribble(a.read)
		scribble(a.next)
		if !b.is(want) || !ask(s, 0).is(want) || s != was {
			t.Errorf("%s: writing an answer over makes a difference", hexed(s))
		}
		if t.Failed() {
			break
		}
	}
}

// R4: the bytes that are handed in stay as they were, and what is done with them later is not seen in an answer.
func TestHandedInStays(t *testing.T) {
	r := rule{2083}
	for range 5000 {
		given := []byte(r.anyString(4))
		before := bytes.Clone(given)
		want := ask(string(before), 0)
		got := ask(unsafe.String(unsafe.SliceData(given), len(given)), 0)
		if !bytes.Equal(given, before) {
			t.Fatalf("%s becomes %s", hexed(string(before)), hexed(string(given)))
		}
		for i := range given {
			given[i] ^= 0x5a
		}
		if !got.is(want) {
			t.Errorf("of %s an answer changes", hexed(string(before)))
		}
	}
}

// R4, R5: two faults are two things: what is done with the one is not seen in the next.
func TestOwnFaults(t *testing.T) {
	for _, c := range []struct {
		s    string
		want told
	}{{"", told{input, 0}}, {"\x92\x01", told{input, 2}}, {"\xc1", told{input, 0}}, {"\x00\x00", told{input, 1}}, {"\x82\x01\x00\x01", told{input, 3}}, {"\xa1\xff", told{input, 1}}, {"\xd4", told{input, 1}}, {"\xc4\x01", told{input, 2}}, {strings.Repeat("\x91", 129), told{limit, 128}}, {strings.Repeat("\x81", 129), told{limit, 128}}, {strings.Repeat("\x00", 1048577), told{limit, 1048576}}} {
		for range 3 {
			_, err := packread.Read(c.s)
			if got := tells(err); got != c.want {
				t.Errorf("Read(%s): %v, want %v", hexed(c.s), got, c.want)
			}
			var fault *api.Fault
			if errors.As(err, &fault) {
				*fault = api.Fault{Err: api.ErrArg, At: 99, Path: "/1"}
			}
		}
	}
	if api.ErrInput == nil || tells(api.ErrArg) != (told{code: arg}) {
		t.Error("api's own errors are others now")
	}
}

// R2: ErrArg tells no place.
func TestArgHasNoPlace(t *testing.T) {
	for _, at := range []int{-1, 2, 1 << 40} {
		_, _, err := packread.Next("\x00", at)
		var fault *api.Fault
		if errors.As(err, &fault) && (fault.At != 0 || fault.Path != "") {
			t.Errorf("Next(00, %d): %v", at, err)
		}
	}
}
