package packwrite_test

import (
	"slices"
	"strings"
	"testing"

	"crucible/api"
	"crucible/packread"
	"crucible/packwrite"
	"crucible/value"
)

// holds: what follows of what Write answers (P24.3, P0.1).
func holds(t *testing.T, v api.Value) {
	t.Helper()
	s, err := packwrite.Write(v)
	if err != nil || len(s) < 1 {
		t.Errorf("Write(%s) = %s, %v", show(v), hexed(s), err)
		return
	}
	if read, err := packread.Read(s); err != nil || !same(read, v) {
		t.Errorf("%s is read as %s, %v, want %s", hexed(s), show(read), err, show(v))
	}
	if depth, ok := depthOf(s); !ok || depth != value.Depth(v) {
		t.Errorf("%s is of the depth %d, %v, want %d", hexed(s), depth, ok, value.Depth(v))
	}
	if !packwrite.Canon(s) {
		t.Errorf("%s is not canonical", hexed(s))
	}
}

// P24.3: what Write answers is read as the value.
func TestThereAndBack(t *testing.T) {
	r := rule{2413}
	for range 10000 {
		holds(t, r.value(4, false))
	}
	for d := range 129 {
		holds(t, nested(d, r.plain(false)))
	}
}

// P24.3: two values have one document just if they are the same.
func TestOneDocumentEach(t *testing.T) {
	r := rule{2414}
	met := map[string]api.Value{}
	var all []api.Value
	again := 0
	for range 20000 {
		v := r.value(2, false)
		s, err := packwrite.Write(v)
		if err != nil {
			t.Fatal(err)
		}
		if other, ok := met[s]; ok {
			again++
			if value.Compare(v, other) != 0 || !same(v, other) {
				t.Errorf("%s and %s are both %s", show(v), show(other), hexed(s))
			}
			continue
		}
		met[s] = v
		all = append(all, v)
	}
	// Unlike documents, unlike values: among values in order, the same would stand side by side.
	slices.SortFunc(all, value.Compare)
	for i := 1; i < len(all); i++ {
		if value.Compare(all[i-1], all[i]) == 0 {
			t.Errorf("%s has two documents", show(all[i]))
		}
	}
	if again < 2000 || len(all) < 5000 {
		t.Errorf("%d again, %d in all", again, len(all))
	}
	// Values that look alike.
	alike := []api.Value{
		null, no, yes, num(0), num(1), num(-1), num(-32), num(-33), num(127), num(128), num(192), num(223), num(224), num(255), num(256), text(""), raw(""), text("\x00"), raw("\x00"), text("a"), raw("a"), list(), object(), list(null), list(list()), list(num(1)), list(num(1), num(0)), list(num(16)), ext(0, ""), ext(1, ""), ext(-1, ""), ext(0, "\x00"), ext(0, "\x00\x00"), ext(0, "\x01"), ext(1, "\x00"), ext(-128, ""), ext(97, ""),
		whole("18446744073709551615"), whole("18446744073709551616"), whole("18446744073709555712"), whole("-9223372036854775808"), whole("-9223372036854777856"), whole("9223372036854775808"), whole("-18446744073709551616"), num(0x3fc00000), raw("\x3f\xc0\x00\x00"), num(-128), num(32768), num(-32768), num(65535), num(4294967295), num(-2147483648), num(2147483648),
		float(1), float(2), float(1<<63 | 1), float(half3), float(half3 + 1), float(half3 - 1), float(half3 | 1<<63), float(plus), float(minus), float(noNumber), float(0x3ff0000020000000), float(0x3ff0000010000000),
		object(num(1), num(2)), object(num(2), num(1)), list(num(1), num(2)), object(text("aa"), num(1), text("b"), num(2)), object(text("aa"), num(2), text("b"), num(1)), list(object(), object()), object(object(), object()), text("e\u0301"), text("é"),
	}
	for i, a := range alike {
		for j, b := range alike {
			x, wrongX := packwrite.Write(a)
			y, wrongY := packwrite.Write(b)
			if wrongX != nil || wrongY != nil || (x == y) != (i == j) {
				t.Errorf("%s is %s, %v; %s is %s, %v", show(a), hexed(x), wrongX, show(b), hexed(y), wrongY)
			}
		}
	}
}

// P24.3: a document's length is as its parts say, and it is put together of its Kids' documents: of a list in their order, of a map in that of the keys' documents.
func TestPutTogether(t *testing.T) {
	r := rule{2415}
	containers := 0
	for range 20000 {
		v := r.value(4, false)
		s, err := packwrite.Write(v)
		if err != nil {
			t.Fatal(err)
		}
		var parts []string
		for _, kid := range v.Kids {
			part, err := packwrite.Write(kid)
			if err != nil {
				t.Errorf("%s is taken, but not %s: %v", show(v), show(kid), err)
			}
			parts = append(parts, part)
		}
		var want string
		switch v.Kind {
		case api.VList:
			want = heads(v.Kind, len(v.Kids))[0] + strings.Join(parts, "")
		case api.VMap:
			want = heads(v.Kind, len(v.Kids)/2)[0] + strings.Join(rising(parts), "")
		default:
			continue
		}
		containers++
		if s != want {
			t.Errorf("Write(%s) = %s, of its Kids' documents %s", show(v), hexed(s), hexed(want))
		}
	}
	if containers < 8000 {
		t.Errorf("%d containers", containers)
	}
}

// comesOut: is the string read as a value of which Write answers it?
func comesOut(s string) bool {
	v, err := packread.Read(s)
	if err != nil {
		return false
	}
	out, err := packwrite.Write(v)
	return err == nil && out == s
}

// P24.5, P0.3: Canon is true just if a string is read as a value of which Write answers it; and then it is canonical by its bytes alone.
func TestAsItStands(t *testing.T) {
	r := rule{2416}
	out := 0
	for range 12000 {
		s := r.anyString(3)
		if r.below(2) == 0 {
			s = r.loosely(r.value(3, false))
		}
		if got, stands := packwrite.Canon(s), comesOut(s); got != stands || got != isCanonical(s) {
			t.Errorf("Canon(%s) = %v; does it come out as it stands: %v; is it canonical by its bytes: %v", hexed(s), got, stands, isCanonical(s))
		}
		if comesOut(s) {
			out++
		}
	}
	if out < 3000 || out > 10000 {
		t.Errorf("%d come out as they stand", out)
	}
}

// P0.1: whatever document of a value it is, the same comes out, and that only once.
func TestOneDocument(t *testing.T) {
	r := rule{2417}
	for range 4000 {
		v := r.value(3, false)
		want := document(v)
		for range 3 {
			s := r.loosely(v)
			read, err := packread.Read(s)
			if err != nil {
				t.Fatal(err)
			}
			writes(t, read, want)
			if packwrite.Canon(s) != (s == want) {
				t.Errorf("of %s and %s both are canonical, or neither", hexed(s), hexed(want))
			}
		}
	}
}
