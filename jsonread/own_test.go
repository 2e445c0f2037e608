package jsonread_test

import (
	"errors"
	"slices"
	"strconv"
	"strings"
	"sync"
	"testing"
	"unsafe"

	"crucible/api"
	"crucible/jsonread"
	"crucible/value"
)

type answer struct {
	value api.Value
	told  told
}

func ask(s string) answer {
	v, err := jsonread.Read(s)
	return answer{v, tells(err)}
}

func (a answer) is(b answer) bool { return same(a.value, b.value) && a.told == b.told }

// R1, R5: anything at all, in any order, and several at a time.
func TestSame(t *testing.T) {
	r := rule{1721}
	var texts []string
	var first []answer
	for range 3000 {
		texts = append(texts, r.anyString(4))
	}
	for _, s := range texts {
		first = append(first, ask(s))
	}
	for i, s := range slices.Backward(texts) {
		if !ask(s).is(first[i]) {
			t.Errorf("what was asked before makes a difference: %q", s)
		}
	}
	var wait sync.WaitGroup
	for range 4 {
		wait.Go(func() {
			for i, s := range texts {
				if !ask(s).is(first[i]) {
					t.Errorf("what is asked at the same time makes a difference: %q", s)
				}
			}
		})
	}
	wait.Wait()
}

// R5: a map of many keys is the same each time.
func TestSameMap(t *testing.T) {
	var parts []string
	for i := range 300 {
		parts = append(parts, `"`+strconv.Itoa(i*7919%307)+`":[{"b":0,"a":`+strconv.Itoa(i)+"}]")
	}
	s := "{" + strings.Join(parts, ",") + "}"
	want := ask(s)
	if want.told != (told{}) || len(want.value.Kids) != 600 {
		t.Fatalf("%v, %d", want.told, len(want.value.Kids))
	}
	for range 200 {
		if !ask(s).is(want) {
			t.Fatal("read otherwise")
		}
	}
}

type span struct{ from, to uintptr }

func spanOf[T any](l []T) span {
	var one T
	from := uintptr(unsafe.Pointer(unsafe.SliceData(l)))
	return span{from, from + uintptr(cap(l))*unsafe.Sizeof(one)}
}

func spanOfText(s string) span {
	from := uintptr(unsafe.Pointer(unsafe.StringData(s)))
	return span{from, from + uintptr(len(s))}
}

// lists are where the lists of a value lie, spare room too.
func lists(v api.Value) []span {
	out := []span{spanOf(v.Int.Mag), spanOf(v.Kids)}
	for _, kid := range v.Kids {
		out = append(out, lists(kid)...)
	}
	return out
}

// texts are where the texts of a value lie.
func texts(v api.Value) []span {
	out := []span{spanOfText(v.Text)}
	for _, kid := range v.Kids {
		out = append(out, texts(kid)...)
	}
	return out
}

// apart: do no two of these share memory?
func apart(all []span) bool {
	all = slices.DeleteFunc(all, func(x span) bool { return x.from == x.to })
	slices.SortFunc(all, func(a, b span) int {
		if a.from < b.from {
			return -1
		}
		return 1
	})
	for i := 1; i < len(all); i++ {
		if all[i].from < all[i-1].to {
			return false
		}
	}
	return true
}

// scribble writes over all memory of a value, its spare room too.
func scribble(v api.Value) {
	mag := v.Int.Mag[:cap(v.Int.Mag)]
	for i := range mag {
		mag[i] ^= 0xa5a5a5a5
	}
	kids := v.Kids[:cap(v.Kids)]
	for i, k := range kids {
		scribble(k)
		kids[i] = api.Value{Kind: 99, N: 99, Text: "written over"}
	}
}

// R4: an answer is new memory: it shares none with what was handed in nor with another answer, nor do two lists in it.
func TestOwnMemory(t *testing.T) {
	r := rule{1723}
	for range 3000 {
		// From the heap, so that it lies apart from what is written in the program.
		s := strings.Clone(r.made(4, false).s)
		was := strings.Clone(s)
		a, b, want := ask(s), ask(s), ask(was)
		if !apart(slices.Concat(lists(a.value), lists(b.value))) {
			t.Errorf("%q: two lists share memory", s)
		}
		for _, x := range texts(a.value) {
			if !apart([]span{x, spanOfText(s)}) {
				t.Errorf("%q: an answer shares memory with what was handed in", s)
			}
		}
		scribble(a.value)
		if !b.is(want) || !ask(s).is(want) || s != was {
			t.Errorf("%q: writing an answer over makes a difference", s)
		}
		if t.Failed() {
			break
		}
	}
}

// R4, R5: two faults are two things: what is done with the one is not seen in the next.
func TestOwnFaults(t *testing.T) {
	for _, c := range []struct {
		s    string
		want told
	}{{"[1,]", told{input, 3}}, {"[1", told{input, 2}}, {strings.Repeat("[", 129), told{limit, 128}}, {"[1e999]", told{input, 1}}, {`{"a":0,"a":0}`, told{input, 7}}, {strings.Repeat(" ", 1048577), told{limit, 1048576}}} {
		for range 3 {
			_, err := jsonread.Read(c.s)
			if got := tells(err); got != c.want {
				t.Errorf("Read(%q): %v, want %v", cut(c.s), got, c.want)
			}
			var fault *api.Fault
			if errors.As(err, &fault) {
				*fault = api.Fault{Err: api.ErrArg, At: 99, Path: "/1"}
			}
		}
	}
}

// R1: all bytes in any order.
func TestAnyBytes(t *testing.T) {
	r := rule{1724}
	for range 30000 {
		s := make([]byte, r.below(12))
		for i := range s {
			s[i] = byte(r.next())
			if r.below(3) > 0 {
				s[i] = r.wild()
			}
		}
		sameAsReference(t, string(s))
	}
}

// R1: as long as may be, of every sort, ends in time and without a panic.
func TestLong(t *testing.T) {
	fill := func(ahead, part, behind string) string {
		return ahead + strings.Repeat(part, (1048576-len(ahead)-len(behind))/len(part)) + behind
	}
	deep := strings.Repeat(`{"a":[`, 64)
	for _, s := range []string{
		fill("[", "1e-300,", "0]"), fill("[", "5e-324,", "0]"), fill("[", "9e307,", "0]"), fill("[", "0.1,", "0]"), fill("[", "{},", "0]"), fill("[", `{"":0},`, "0]"), fill("[", "[[]],", "0]"), fill("[", `"",`, "0]"), fill("[", " 0 , ", "0]"), fill("", "9", "e-1048560"), fill("0.", "3", ""), fill("1e", "0", "1"), fill("1e-", "9", ""),
		fill(`"`, `\ud83d\ude00`, `"`), fill(deep, "0,", "0"+strings.Repeat("]}", 64)), fill(deep[6:], `{"b":0,"c":[]},`, "0"+strings.Repeat("]}", 63)),
	} {
		v, err := jsonread.Read(s)
		if err != nil || value.Check(v) != nil {
			t.Errorf("Read(%q): %v", cut(s), err)
		}
	}
	for _, s := range []string{fill("", "[", ""), fill("", "{", ""), fill("", "]", ""), fill("", `{"a":`, ""), fill("", `"[`, ""), fill("", "-", ""), fill("", "\x80", ""), fill("[", "0,", "]"), fill("{", `"":0,`, `"":0}`), fill("[", "1e999,", "0]")} {
		v, err := jsonread.Read(s)
		if err == nil || !same(v, api.Value{}) {
			t.Errorf("Read(%q) = %s, %v", cut(s), show(v), err)
		}
	}
}
