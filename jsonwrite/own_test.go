package jsonwrite_test

import (
	"errors"
	"slices"
	"strconv"
	"strings"
	"sync"
	"testing"
	"unsafe"

	"crucible/api"
	"crucible/jsonwrite"
	"crucible/value"
)

type answer struct {
	text string
	told told
}

func ask(v api.Value) answer {
	s, err := jsonwrite.Write(v)
	return answer{s, tells(err)}
}

// R1, R5: anything at all, in any order, and several at a time.
func TestSame(t *testing.T) {
	r := rule{1818}
	var values []api.Value
	var texts []string
	for range 3000 {
		values = append(values, r.anything(4))
		texts = append(texts, r.anyString(4))
	}
	var first []answer
	var canonical []bool
	for i, v := range values {
		first = append(first, ask(v))
		canonical = append(canonical, jsonwrite.Canon(texts[i]))
	}
	for i, v := range slices.Backward(values) {
		if ask(v) != first[i] || jsonwrite.Canon(texts[i]) != canonical[i] {
			t.Errorf("what was asked before makes a difference: %s, %q", show(v), texts[i])
		}
	}
	var wait sync.WaitGroup
	for range 4 {
		wait.Go(func() {
			for i, v := range values {
				if ask(v) != first[i] || jsonwrite.Canon(texts[i]) != canonical[i] {
					t.Errorf("what is asked at the same time makes a difference: %s, %q", show(v), texts[i])
				}
			}
		})
	}
	wait.Wait()
}

// R5: a map of many keys is the same each time, and so is which of many nodes is told.
func TestSameMap(t *testing.T) {
	var kids, wrong []api.Value
	for i := range 300 {
		key := text(strconv.Itoa(i*7919%307) + string(rune(0xe000+i)))
		kids = append(kids, key, list(object(text("a"), num(int64(i)))))
		wrong = append(wrong, key, list(null, raw("")))
	}
	for _, v := range []api.Value{mapOf(kids), mapOf(wrong)} {
		want := ask(v)
		s, e := wants(v)
		if want != (answer{s, e}) {
			t.Fatalf("%v, want %q, %v", want, s, e)
		}
		for range 200 {
			if ask(v) != want {
				t.Fatal("written otherwise")
			}
		}
	}
}

// R5: how much room a list has, or whether an empty one is nil, makes no difference.
func TestRoom(t *testing.T) {
	r := rule{1819}
	for range 5000 {
		v := r.anything(3)
		if got, want := ask(roomy(v)), ask(v); got != want {
			t.Errorf("%s: %v, with spare room %v", show(v), want, got)
		}
	}
}

// roomy is the same with spare room behind each list, in which something stands, and with no list nil.
func roomy(v api.Value) api.Value {
	mag := append(make(api.Nat, 0, len(v.Int.Mag)+3), v.Int.Mag...)
	copy(mag[len(mag):cap(mag)], api.Nat{7, 8, 9})
	kids := make([]api.Value, 0, len(v.Kids)+2)
	for _, kid := range v.Kids {
		kids = append(kids, roomy(kid))
	}
	for i := range kids[len(kids):cap(kids)] {
		kids[:cap(kids)][len(kids)+i] = text("spare")
	}
	v.Int.Mag, v.Kids = mag, kids
	return v
}

// intact: is the spare room of all lists as roomy left it?
func intact(v api.Value) bool {
	mag := v.Int.Mag[len(v.Int.Mag):cap(v.Int.Mag)]
	for i, limb := range mag {
		if limb != [4]uint32{7, 8, 9}[min(i, 3)] {
			return false
		}
	}
	for i, kid := range v.Kids[:cap(v.Kids)] {
		if i < len(v.Kids) && !intact(kid) || i >= len(v.Kids) && i < len(v.Kids)+2 && !same(kid, text("spare")) {
			return false
		}
	}
	return true
}

// R4: what is handed in is not changed, its spare room neither.
func TestLeftAsItWas(t *testing.T) {
	r := rule{1820}
	for range 5000 {
		v := r.anything(4)
		given := roomy(v)
		if !intact(given) {
			t.Fatalf("%s: the spare room is not as it was from the beginning", show(v))
		}
		_, _ = jsonwrite.Write(given)
		if !same(given, v) || !intact(given) {
			t.Errorf("%s is not as it was", show(v))
		}
	}
	long := roomy(list(text(strings.Repeat("a", 1048575)), object(text("ﬀ"), num(1), text("😀"), num(2))))
	was := value.Copy(long)
	fails(t, long, limit, "")
	if !same(long, was) || !intact(long) {
		t.Error("what is too long is not as it was")
	}
}

type span struct{ from, to uintptr }

func spanOf(s string) span {
	from := uintptr(unsafe.Pointer(unsafe.StringData(s)))
	return span{from, from + uintptr(len(s))}
}

func (a span) meets(b span) bool { return a.from < b.to && b.from < a.to }

// R4: an answer is new memory: it shares none with the texts that were handed in, nor with another answer; and what is done to the value later does not reach it.
func TestOwnMemory(t *testing.T) {
	r := rule{1821}
	for range 3000 {
		v := value.Copy(r.value(4, false))
		a, wrong := jsonwrite.Write(v)
		b, _ := jsonwrite.Write(v)
		was := strings.Clone(a)
		if wrong != nil {
			t.Fatal(wrong)
		}
		if spanOf(a).meets(spanOf(b)) {
			t.Errorf("%q: two answers share memory", a)
		}
		for _, p := range places(v) {
			if spanOf(a).meets(spanOf(p.node.Text)) {
				t.Errorf("%q: an answer shares memory with what was handed in", a)
			}
		}
		scribble(v)
		if a != was || b != was {
			t.Errorf("%q became %q, %q", was, a, b)
		}
	}
	// What is told with few words too.
	for _, v := range []api.Value{null, no, yes, num(0), list(), object(), text("")} {
		a, _ := jsonwrite.Write(v)
		b, _ := jsonwrite.Write(v)
		if spanOf(a).meets(spanOf(b)) {
			t.Errorf("%q: two answers share memory", a)
		}
	}
}

// scribble writes over all memory of a value.
func scribble(v api.Value) {
	for i := range v.Int.Mag {
		v.Int.Mag[i] ^= 0xa5a5a5a5
	}
	for i, kid := range v.Kids {
		scribble(kid)
		v.Kids[i] = api.Value{Kind: 99, N: 99, Text: "written over"}
	}
}

// R4, R5: two faults are two things: what is done with the one is not seen in the next.
func TestOwnFaults(t *testing.T) {
	for _, c := range []struct {
		v    api.Value
		want told
	}{{raw(""), told{rep, ""}}, {list(null, raw("")), told{rep, "/1"}}, {object(num(1), null), told{rep, "/0"}}, {none, told{arg, ""}}, {list(none), told{arg, "/0"}}, {deep(129), told{limit, strings.Repeat("/0", 128)}}, {text(strings.Repeat("a", 1048575)), told{limit, ""}}} {
		for range 3 {
			_, err := jsonwrite.Write(c.v)
			if got := tells(err); got != c.want {
				t.Errorf("Write(%s): %v, want %v", show(c.v), got, c.want)
			}
			var fault *api.Fault
			if errors.As(err, &fault) {
				*fault = api.Fault{Err: api.ErrBusy, At: 99, Path: "/9"}
			}
		}
	}
}

// R1: great structs of every sort end in time and without a panic.
func TestGreat(t *testing.T) {
	many := slices.Repeat([]api.Value{num(0)}, 300000)
	keys := make([]api.Value, 0, 200000)
	for i := range 100000 {
		keys = append(keys, text(string(rune(0xe000+i%0x1000))+string(rune(0x10000+i))), null)
	}
	for _, v := range []api.Value{
		list(many...), {Kind: api.VNull, Kids: many}, {Kind: api.VMap, Kids: many}, {Kind: api.VTag, Kids: many}, mapOf(keys), {Kind: api.VMap, Kids: keys}, deep(20000), nested(20000, none), nested(20000, raw("")), limbs(false, slices.Repeat([]uint32{1}, 1000000)...), limbs(true, slices.Repeat([]uint32{0}, 1000000)...), text(strings.Repeat("\xff", 2000000)), raw(strings.Repeat("\xff", 2000000)), text(strings.Repeat("\u0000", 2000000)),
		list(slices.Repeat([]api.Value{numberOf(1e300)}, 20000)...), list(slices.Repeat([]api.Value{float(1)}, 20000)...), list(limbs(false, slices.Repeat([]uint32{1 << 31}, 100)...)), limbs(false, append(slices.Repeat([]uint32{0}, 31), 1<<31)...), limbs(false, append(slices.Repeat([]uint32{0}, 32), 1)...),
	} {
		sameAsReference(t, v)
	}
}
