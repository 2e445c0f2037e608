package diag_test

import (
	"bytes"
	"errors"
	"slices"
	"strings"
	"sync"
	"testing"
	"unsafe"

	"crucible/api"
	"crucible/diag"
	"crucible/value"
)

type answer struct {
	v    api.Value
	s    string
	told told
}

func askRead(s string) answer {
	v, err := diag.Read(s)
	e, _ := tells(err)
	return answer{v: v, told: e}
}

func askShow(v api.Value) answer {
	s, err := diag.Show(v)
	e, _ := tells(err)
	return answer{s: s, told: e}
}

func (a answer) is(b answer) bool { return same(a.v, b.v) && a.s == b.s && a.told == b.told }

// anything makes any struct, most of which may not be.
func (r *rule) anything(depth int) api.Value {
	v := r.value(depth)
	for range r.below(3) {
		v = value.Copy(v)
		r.spoil(&v)
	}
	return v
}

// R1, R5: anything at all, in any order, and several at a time.
func TestSame(t *testing.T) {
	r := rule{2271}
	var texts []string
	var values []api.Value
	var first []answer
	for range 3000 {
		texts = append(texts, r.anyString(4))
		values = append(values, r.anything(4))
	}
	ask := func(i int) []answer { return []answer{askRead(texts[i]), askShow(values[i])} }
	for i := range texts {
		first = append(first, ask(i)...)
	}
	asIs := func(i int) bool { return slices.EqualFunc(ask(i), first[2*i:2*i+2], answer.is) }
	for i := range texts {
		if n := len(texts) - 1 - i; !asIs(n) {
			t.Errorf("what was asked before makes a difference: %q, %s", texts[n], dump(values[n]))
		}
	}
	var wait sync.WaitGroup
	for range 4 {
		wait.Go(func() {
			for i := range texts {
				if !asIs(i) {
					t.Errorf("what is asked at the same time makes a difference: %q, %s", texts[i], dump(values[i]))
				}
			}
		})
	}
	wait.Wait()
}

type span struct{ from, to uintptr }

func spanOf[T any](l []T) span {
	var one T
	from := uintptr(unsafe.Pointer(unsafe.SliceData(l)))
	return span{from, from + uintptr(cap(l))*unsafe.Sizeof(one)}
}

func spanOfText(s string) span {
	from := uintptr(unsafe.Pointer(unsafe.StringData(s)))
	return span{from, from + uintptr(len(s))}
}

// lists are where the lists of a value lie, spare room too.
func lists(v api.Value) []span {
	out := []span{spanOf(v.Int.Mag), spanOf(v.Kids)}
	for _, kid := range v.Kids {
		out = append(out, lists(kid)...)
	}
	return out
}

// texts are where the texts of a value lie.
func texts(v api.Value) []span {
	out := []span{spanOfText(v.Text)}
	for _, kid := range v.Kids {
		out = append(out, texts(kid)...)
	}
	return out
}

// disjoint: do no two of these share memory?
func disjoint(all []span) bool {
	all = slices.DeleteFunc(all, func(x span) bool { return x.from == x.to })
	slices.SortFunc(all, func(a, b span) int {
		if a.from < b.from {
			return -1
		}
		return 1
	})
	for i := 1; i < len(all); i++ {
		if all[i].from < all[i-1].to {
			return false
		}
	}
	return true
}

// scribble writes over all memory of a value, its spare room too.
func scribble(v api.Value) {
	mag := v.Int.Mag[:cap(v.Int.Mag)]
	for i := range mag {
		mag[i] ^= 0xa5a5a5a5
	}
	kids := v.Kids[:cap(v.Kids)]
	for i, k := range kids {
		scribble(k)
		kids[i] = api.Value{Kind: 99, N: 99, Text: "written over"}
	}
}

// R4: what is read is new memory: it shares none with what was handed in nor with another answer, nor do two lists in it.
func TestOwnMemory(t *testing.T) {
	r := rule{2272}
	for range 3000 {
		s := strings.Clone(r.written(4, false).s)
		was := strings.Clone(s)
		a, b, want := askRead(s), askRead(s), askRead(was)
		if !disjoint(slices.Concat(lists(a.v), lists(b.v))) {
			t.Errorf("%q: two lists share memory", s)
		}
		for _, x := range texts(a.v) {
			// One letter may lie in a table of the language's own, never in what was handed in.
			if !disjoint([]span{x, spanOfText(s)}) {
				t.Errorf("%q: an answer shares memory with what was handed in", s)
			}
		}
		scribble(a.v)
		if !b.is(want) || !askRead(s).is(want) || s != was {
			t.Errorf("%q: writing an answer over makes a difference", s)
		}
		if t.Failed() {
			break
		}
	}
}

// R4: what is handed in stays as it was, and what is done with it later is not seen in an answer.
func TestHandedInStays(t *testing.T) {
	r := rule{2273}
	for range 3000 {
		given := []byte(r.anyString(4))
		before := bytes.Clone(given)
		want := askRead(string(before))
		got := askRead(unsafe.String(unsafe.SliceData(given), len(given)))
		if !bytes.Equal(given, before) {
			t.Fatalf("%q becomes %q", before, given)
		}
		for i := range given {
			given[i] ^= 0x5a
		}
		if !got.is(want) {
			t.Errorf("of %q an answer changes", before)
		}
	}
	for range 5000 {
		v := roomy(r.anything(4))
		was := dumpAll(v)
		before := askShow(v)
		if dumpAll(v) != was {
			t.Fatalf("%s is changed", was)
		}
		text := strings.Clone(before.s)
		scribble(v)
		if before.s != text {
			t.Errorf("the text of %s changes", was)
		}
	}
}

// roomy is a copy whose lists have spare room, with something in it.
func roomy(v api.Value) api.Value {
	mag := append(slices.Clone(v.Int.Mag), 7, 8)
	v.Int.Mag = mag[:len(v.Int.Mag)]
	kids := []api.Value{}
	for _, kid := range v.Kids {
		kids = append(kids, roomy(kid))
	}
	kids = append(kids, text("spare"), null)
	v.Kids = kids[:len(v.Kids)]
	return v
}

// dumpAll tells a value with its spare room.
func dumpAll(v api.Value) string {
	v.Int.Mag = v.Int.Mag[:cap(v.Int.Mag)]
	out := dump(api.Value{Kind: v.Kind, N: v.N, Int: v.Int, Bits: v.Bits, Ext: v.Ext, Text: v.Text})
	for _, kid := range v.Kids[:cap(v.Kids)] {
		out += "<" + dumpAll(kid) + ">"
	}
	return out
}

// R4, R5: two faults are two things: what is done with the one is not seen in the next.
func TestOwnFaults(t *testing.T) {
	for _, c := range []struct {
		s    string
		want told
	}{{"", told{code: input}}, {"[1", told{code: input, at: 2}}, {"\"\\x", told{code: input, at: 2}}, {"1 2", told{code: input, at: 2}}, {"{1:1,1:", told{code: input, at: 5}}, {"simple(20)", told{code: input, at: 9}}, {strings.Repeat("[", 129), told{code: limit, at: 128}}, {strings.Repeat("\x00", 1048577), told{code: limit, at: 1048576}}} {
		for range 3 {
			_, err := diag.Read(c.s)
			if got, _ := tells(err); got != c.want {
				t.Errorf("Read(%q): %v, want %v", cut(c.s), got, c.want)
			}
			overwrite(err)
		}
	}
	for _, c := range []struct {
		v    api.Value
		want told
	}{{none, told{code: arg}}, {list(none), told{code: arg, path: "/0"}}, {nested(128, list()), told{code: limit, path: strings.Repeat("/0", 128)}}, {text(strings.Repeat("a", 1<<20)), told{code: limit}}} {
		for range 3 {
			_, err := diag.Show(c.v)
			if got, _ := tells(err); got != c.want {
				t.Errorf("Show(%s): %v, want %v", dump(c.v), got, c.want)
			}
			overwrite(err)
		}
	}
	for n, err := range []error{api.ErrArg, api.ErrInput, api.ErrLimit} {
		if got, _ := tells(err); got != (told{code: []int{arg, input, limit}[n]}) {
			t.Error("api's own errors are others now")
		}
	}
}

func overwrite(err error) {
	var fault *api.Fault
	if errors.As(err, &fault) {
		*fault = api.Fault{Err: api.ErrKey, At: 99, Path: "/1"}
	}
}

// R4: lists that are empty and nil ones mean the same.
func TestEmptyAndNil(t *testing.T) {
	empty := api.Value{Kids: []api.Value{}, Int: api.Int{Mag: api.Nat{}}}
	for _, v := range []api.Value{null, yes, num(0), float(half3), text("a"), raw("a"), list(), object(), simple(0), ext(0, "")} {
		w := v
		w.Kids, w.Int.Mag = empty.Kids, empty.Int.Mag
		shows(t, v, shown(v))
		shows(t, w, shown(v))
	}
}
