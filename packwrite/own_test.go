package packwrite_test

import (
	"errors"
	"slices"
	"strings"
	"sync"
	"testing"
	"unsafe"

	"crucible/api"
	"crucible/packwrite"
	"crucible/value"
)

type answer struct {
	s    string
	told told
}

func ask(v api.Value) answer {
	s, err := packwrite.Write(v)
	return answer{s, tells(err)}
}

// R1, R5: anything at all, in any order, and several at a time.
func TestSame(t *testing.T) {
	r := rule{2418}
	var values []api.Value
	var strings []string
	for range 3000 {
		values = append(values, r.anything(4))
		strings = append(strings, r.anyString(4))
	}
	var first []answer
	var canonical []bool
	for i, v := range values {
		first = append(first, ask(v))
		canonical = append(canonical, packwrite.Canon(strings[i]))
	}
	for i, v := range slices.Backward(values) {
		if ask(v) != first[i] || packwrite.Canon(strings[i]) != canonical[i] {
			t.Errorf("what was asked before makes a difference: %s, %s", show(v), hexed(strings[i]))
		}
	}
	var wait sync.WaitGroup
	for range 4 {
		wait.Go(func() {
			for i, v := range values {
				if ask(v) != first[i] || packwrite.Canon(strings[i]) != canonical[i] {
					t.Errorf("what is asked at the same time makes a difference: %s, %s", show(v), hexed(strings[i]))
				}
			}
		})
	}
	wait.Wait()
}

// roomy is the same with spare room behind each list, in which something stands, and with no list nil.
func roomy(v api.Value) api.Value {
	mag := append(make(api.Nat, 0, len(v.Int.Mag)+3), v.Int.Mag...)
	copy(mag[len(mag):len(mag)+3], api.Nat{7, 8, 9})
	kids := make([]api.Value, 0, len(v.Kids)+2)
	for _, kid := range v.Kids {
		kids = append(kids, roomy(kid))
	}
	copy(kids[len(kids):len(kids)+2], []api.Value{text("spare"), text("spare")})
	v.Int.Mag, v.Kids = mag, kids
	return v
}

// intact: is the spare room of all lists as roomy left it?
func intact(v api.Value) bool {
	n, m := len(v.Int.Mag), len(v.Kids)
	return slices.Equal(v.Int.Mag[n:n+3], api.Nat{7, 8, 9}) && slices.EqualFunc(v.Kids[m:m+2], []api.Value{text("spare"), text("spare")}, same) && !slices.ContainsFunc(v.Kids, func(kid api.Value) bool { return !intact(kid) })
}

// R4, R5: what is handed in is not changed, its spare room neither; how much of that there is, or whether an empty list is nil, makes no difference.
func TestLeftAsItWas(t *testing.T) {
	r := rule{2419}
	for range 5000 {
		v := r.anything(4)
		given := roomy(v)
		if got, want := ask(given), ask(v); got != want {
			t.Errorf("%s: %v, with spare room %v", show(v), want, got)
		}
		if !same(given, v) || !intact(given) {
			t.Errorf("%s is not as it was", show(v))
		}
	}
	long := roomy(list(text(strings.Repeat("a", 1048575)), object(num(-1), num(1), num(0), num(2))))
	was := value.Copy(long)
	fails(t, long, limit, "")
	if !same(long, was) || !intact(long) {
		t.Error("what is too long is not as it was")
	}
}

type span struct{ from, to uintptr }

func spanOf(s string) span {
	from := uintptr(unsafe.Pointer(unsafe.StringData(s)))
	return span{from, from + uintptr(len(s))}
}

func (a span) meets(b span) bool { return a.from < b.to && b.from < a.to }

// texts are those of all nodes.
func texts(v api.Value) []string {
	out := []string{v.Text}
	for _, kid := range v.Kids {
		out = append(out, texts(kid)...)
	}
	return out
}

// scribble writes over all memory of a value.
func scribble(v api.Value) {
	for i := range v.Int.Mag {
		v.Int.Mag[i] ^= 0xa5a5a5a5
	}
	for i, kid := range v.Kids {
		scribble(kid)
		v.Kids[i] = api.Value{Kind: 99, N: 99, Text: "written over"}
	}
}

// R4: an answer is new memory: it shares none with the texts that were handed in, nor with another answer; and what is done to the value later does not reach it.
func TestOwnMemory(t *testing.T) {
	r := rule{2420}
	for range 3000 {
		v := value.Copy(r.value(4, false))
		a, wrong := packwrite.Write(v)
		b, _ := packwrite.Write(v)
		was := strings.Clone(a)
		if wrong != nil {
			t.Fatal(wrong)
		}
		// What is one byte long may lie in a table of the language's own.
		if len(a) > 1 && spanOf(a).meets(spanOf(b)) {
			t.Errorf("%s: two answers share memory", hexed(a))
		}
		for _, s := range texts(v) {
			if spanOf(a).meets(spanOf(s)) {
				t.Errorf("%s: an answer shares memory with what was handed in", hexed(a))
			}
		}
		scribble(v)
		if a != was || b != was {
			t.Errorf("%s became %s, %s", hexed(was), hexed(a), hexed(b))
		}
	}
}

// R4: the bytes that Canon is handed stay as they were.
func TestHandedInStays(t *testing.T) {
	r := rule{2421}
	for range 3000 {
		given := []byte(r.anyString(4))
		before := string(given)
		got := packwrite.Canon(unsafe.String(unsafe.SliceData(given), len(given)))
		if string(given) != before || got != packwrite.Canon(before) {
			t.Fatalf("%s becomes %s", hexed(before), hexed(string(given)))
		}
	}
}

// R4, R5: two faults are two things: what is done with the one is not seen in the next.
func TestOwnFaults(t *testing.T) {
	for _, c := range []struct {
		v    api.Value
		want told
	}{{simple(0), told{rep, ""}}, {list(null, tag(1, null)), told{rep, "/1"}}, {object(whole("18446744073709551617"), null), told{rep, "/0"}}, {none, told{arg, ""}}, {list(none), told{arg, "/0"}}, {deep(129), told{limit, strings.Repeat("/0", 128)}}, {raw(strings.Repeat("a", 1048572)), told{limit, ""}}} {
		for range 3 {
			_, err := packwrite.Write(c.v)
			if got := tells(err); got != c.want {
				t.Errorf("Write(%s): %v, want %v", show(c.v), got, c.want)
			}
			var fault *api.Fault
			if errors.As(err, &fault) {
				*fault = api.Fault{Err: api.ErrBusy, At: 99, Path: "/9"}
			}
		}
	}
}

// R1: great structs of every sort end in time and without a panic.
func TestGreatStructs(t *testing.T) {
	many := slices.Repeat([]api.Value{num(0)}, 300000)
	var keys []api.Value
	for i := range 100000 {
		keys = append(keys, list(num(int64(-i))), null)
	}
	for _, v := range []api.Value{
		list(many...), {Kind: api.VNull, Kids: many}, {Kind: api.VMap, Kids: many}, {Kind: api.VTag, Kids: many}, mapOf(keys), {Kind: api.VMap, Kids: keys}, deep(20000), nested(20000, none), nested(20000, simple(0)), limbs(false, slices.Repeat([]uint32{1}, 1000000)...), limbs(true, slices.Repeat([]uint32{0}, 1000000)...), limbs(true, append(slices.Repeat([]uint32{0}, 200000), 1)...), text(strings.Repeat("\xff", 2000000)), raw(strings.Repeat("\xff", 2000000)),
		list(slices.Repeat([]api.Value{numberOf(1e300)}, 5000)...), list(slices.Repeat([]api.Value{float(1)}, 100000)...), {Kind: api.VExt, Kids: many}, ext(0, strings.Repeat("a", 3000000)),
	} {
		sameAsReference(t, v)
	}
}
