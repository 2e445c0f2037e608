package cborwrite_test

import (
	"slices"
	"strings"
	"testing"

	"crucible/api"
	"crucible/cborread"
	"crucible/cborwrite"
	"crucible/value"
)

// holds: what follows of what Write answers (P21.3, P0.1).
func holds(t *testing.T, v api.Value) {
	t.Helper()
	s, err := cborwrite.Write(v)
	if err != nil || len(s) < 1 {
		t.Errorf("Write(%s) = %s, %v", show(v), hexed(s), err)
		return
	}
	if read, err := cborread.Read(s); err != nil || !same(read, v) {
		t.Errorf("%s is read as %s, %v, want %s", hexed(s), show(read), err, show(v))
	}
	if depth, ok := depthOf(s); !ok || depth != value.Depth(v) {
		t.Errorf("%s is of the depth %d, %v, want %d", hexed(s), depth, ok, value.Depth(v))
	}
	if !cborwrite.Canon(s) {
		t.Errorf("%s is not canonical", hexed(s))
	}
}

// P21.3: what Write answers is read as the value.
func TestThereAndBack(t *testing.T) {
	r := rule{2112}
	for range 10000 {
		holds(t, r.value(4, false))
	}
	for d := range 129 {
		holds(t, nested(d, r.plain(false)))
	}
}

// P21.3: two values have one document just if they are the same.
func TestOneDocumentEach(t *testing.T) {
	r := rule{2113}
	met := map[string]api.Value{}
	var all []api.Value
	again := 0
	for range 20000 {
		v := r.value(2, false)
		s, err := cborwrite.Write(v)
		if err != nil {
			t.Fatal(err)
		}
		if other, ok := met[s]; ok {
			again++
			if value.Compare(v, other) != 0 || !same(v, other) {
				t.Errorf("%s and %s are both %s", show(v), show(other), hexed(s))
			}
			continue
		}
		met[s] = v
		all = append(all, v)
	}
	// Unlike documents, unlike values: among values in order, the same would stand side by side.
	slices.SortFunc(all, value.Compare)
	for i := 1; i < len(all); i++ {
		if value.Compare(all[i-1], all[i]) == 0 {
			t.Errorf("%s has two documents", show(all[i]))
		}
	}
	if again < 2000 || len(all) < 5000 {
		t.Errorf("%d again, %d in all", again, len(all))
	}
	// Values that look alike.
	alike := []api.Value{
		null, no, yes, simple(0), simple(1), simple(23), simple(32), num(0), num(1), num(-1), num(20), num(22), num(246), text(""), raw(""), text("\x00"), raw("\x00"), text("a"), raw("a"), list(), object(), list(null), list(list()), list(num(1)), list(num(1), num(0)), list(num(16)), tag(0, num(0)), tag(1, num(0)), tag(0, num(1)), tag(4, raw("\x01")), raw("\x01"),
		whole("18446744073709551615"), whole("-18446744073709551615"), whole("-18446744073709551616"), whole("18446744073709551616"), whole("-18446744073709551617"), whole("18446744073709551617"), tag(4, raw("\x01\x00\x00\x00\x00\x00\x00\x00\x00")), raw("\x01\x00\x00\x00\x00\x00\x00\x00\x00"),
		float(1), float(2), float(1<<63 | 1), float(half3), float(half3 + 1), float(half3 - 1), float(half3 | 1<<63), float(plus), float(minus), float(noNumber), float(0x3ff0000020000000), float(0x3ff0040000000000), num(0x3e00), raw("\x3e\x00"),
		object(num(1), num(2)), object(num(2), num(1)), list(num(1), num(2)), object(text("aa"), num(1), text("b"), num(2)), object(text("aa"), num(2), text("b"), num(1)), list(object(), object()), object(object(), object()), text("e\u0301"), text("é"),
	}
	for i, a := range alike {
		for j, b := range alike {
			x, wrongX := cborwrite.Write(a)
			y, wrongY := cborwrite.Write(b)
			if wrongX != nil || wrongY != nil || (x == y) != (i == j) {
				t.Errorf("%s is %s, %v; %s is %s, %v", show(a), hexed(x), wrongX, show(b), hexed(y), wrongY)
			}
		}
	}
}

// P21.3: a document's length is as its parts say, and it is put together of its Kids' documents: of a list in their order, of a map in that of the keys' documents.
func TestPutTogether(t *testing.T) {
	r := rule{2114}
	containers := 0
	for range 20000 {
		v := r.value(4, false)
		s, err := cborwrite.Write(v)
		if err != nil {
			t.Fatal(err)
		}
		var parts []string
		for _, kid := range v.Kids {
			part, err := cborwrite.Write(kid)
			if err != nil {
				t.Errorf("%s is taken, but not %s: %v", show(v), show(kid), err)
			}
			parts = append(parts, part)
		}
		var want string
		switch v.Kind {
		case api.VList:
			want = shortest(4, uint64(len(v.Kids))) + strings.Join(parts, "")
		case api.VMap:
			want = shortest(5, uint64(len(v.Kids)/2)) + strings.Join(rising(parts), "")
		case api.VTag:
			want = shortest(6, v.N) + parts[0]
		default:
			continue
		}
		containers++
		if s != want {
			t.Errorf("Write(%s) = %s, of its Kids' documents %s", show(v), hexed(s), hexed(want))
		}
	}
	if containers < 8000 {
		t.Errorf("%d containers", containers)
	}
}

// comesOut: is the string read as a value of which Write answers it?
func comesOut(s string) bool {
	v, err := cborread.Read(s)
	if err != nil {
		return false
	}
	out, err := cborwrite.Write(v)
	return err == nil && out == s
}

// P21.5, P0.3: Canon is true just if a string is read as a value of which Write answers it; and then it is canonical by its bytes alone.
func TestAsItStands(t *testing.T) {
	r := rule{2115}
	out := 0
	for range 12000 {
		s := r.anyString(3)
		if r.below(2) == 0 {
			s = r.loosely(r.value(3, false))
		}
		if got, stands := cborwrite.Canon(s), comesOut(s); got != stands || got != isCanonical(s) {
			t.Errorf("Canon(%s) = %v; does it come out as it stands: %v; is it canonical by its bytes: %v", hexed(s), got, stands, isCanonical(s))
		}
		if comesOut(s) {
			out++
		}
	}
	if out < 3000 || out > 10000 {
		t.Errorf("%d come out as they stand", out)
	}
}

// P0.1: whatever document of a value it is, the same comes out, and that only once.
func TestOneDocument(t *testing.T) {
	r := rule{2116}
	for range 4000 {
		v := r.value(3, false)
		want := document(v)
		for range 3 {
			s := r.loosely(v)
			read, err := cborread.Read(s)
			if err != nil {
				t.Fatal(err)
			}
			writes(t, read, want)
			if cborwrite.Canon(s) != (s == want) {
				t.Errorf("of %s and %s both are canonical, or neither", hexed(s), hexed(want))
			}
		}
	}
}
