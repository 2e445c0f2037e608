package cborread_test

import (
	"strings"
	"testing"

	"crucible/api"
	"crucible/cborread"
)

// P20.1: every first byte by itself, and with others behind it.
func TestFirstBytes(t *testing.T) {
	for first := range 256 {
		s := string([]byte{byte(first)})
		sameAsReference(t, s)
		for _, behind := range []string{"\x00", "\x1f", "\x20", "\xff", "\x40", "\x60", "\x80", strings.Repeat("\x00", 8), strings.Repeat("\x00", 9), strings.Repeat("\x20", 40), strings.Repeat("\xff", 40), strings.Repeat("\x61", 60), strings.Repeat("\x01", 300)} {
			sameAsReference(t, s+behind)
			sameAsReference(t, "\x82\x00"+s+behind)
			sameAsReference(t, "\xc1"+s+behind)
		}
	}
	// Those that begin no item begin none anywhere.
	for _, s := range []string{"1c", "1d", "1e", "1f", "3c", "3d", "3e", "3f", "5c", "5d", "5e", "7c", "7d", "7e", "9c", "9d", "9e", "bc", "bd", "be", "dc", "dd", "de", "df", "fc", "fd", "fe", "ff"} {
		for _, ahead := range []string{"", "81", "82 01", "9f 9f ff c1", "a1", "a1 00", "bf 01", "c1", "c2", "c3", "d8 20", "bf 00 00 c0"} {
			failsAt(t, ahead+"^"+s)
			failsAt(t, ahead+"^"+s+"00 00 00 00 00 00 00 00 00")
		}
	}
}

// P20.1: a break, where one may be and where none may.
func TestBreaks(t *testing.T) {
	for _, s := range []string{"^ ff", "81 ^ ff", "82 01 ^ ff", "a1 ^ ff", "a1 01 ^ ff", "a2 01 02 ^ ff", "bf 01 ^ ff", "bf 01 02 03 ^ ff", "c1 ^ ff", "c2 ^ ff", "9f c1 ^ ff", "9f 81 ^ ff ff", "9f a1 ^ ff", "bf c1 ^ ff", "bf 01 c1 ^ ff", "9f ff ^ ff", "00 ^ ff", "9f c2 ^ ff", "bf 01 81 ^ ff", "9f 01 a1 01 ^ ff"} {
		failsAt(t, s)
	}
	for _, s := range []string{"9f ff", "bf ff", "5f ff", "7f ff", "9f 9f 9f ff ff ff", "bf bf ff 9f ff ff", "9f 5f ff 7f ff bf ff ff", "9f 41 ff ff", "9f 18 ff ff", "bf 01 18 ff ff", "81 9f ff", "c1 9f ff", "a1 9f ff 9f ff"} {
		if _, err := cborread.Read(of(s)); err != nil {
			t.Errorf("Read(%s): %v", s, err)
		}
		sameAsReference(t, of(s))
	}
}

// P20.1: what stands behind the item, whatever it is.
func TestBehind(t *testing.T) {
	r := rule{2041}
	for range 3000 {
		x := r.made(3, false)
		for _, behind := range []string{"\x00", "\xff", "\x1c", "\x61", "\xc2", x.s, r.anyString(2) + "\x00"} {
			fails(t, x.s+behind, input, len(x.s))
		}
	}
}

// P20.1: a document that is cut ends within the item.
func TestNotEnded(t *testing.T) {
	r := rule{2042}
	for range 500 {
		x := r.made(4, false)
		for n := range len(x.s) {
			fails(t, x.s[:n], input, n)
		}
	}
}

// P20.1: what is found first counts: neither the lesser place nor the sort.
func TestFoundFirst(t *testing.T) {
	deep := strings.Repeat("81", 130)
	for _, c := range []struct {
		s    string
		want told
	}{
		// A key that stands twice ahead of what stands too deep, and the other way round.
		{"a2 01 00 01" + deep, told{input, 3}}, {"a2 01" + deep, told{limit, 2 + 127}}, {"a2" + deep, told{limit, 1 + 127}}, {"a2 01 00 02" + deep, told{limit, 4 + 127}},
		// A wrong byte ahead of what stands too deep.
		{"82 1c" + deep, told{input, 1}}, {"83 01" + deep + "1c", told{limit, 2 + 127}},
		// What stands behind comes last.
		{"a2 01 00 01 00 00", told{input, 3}}, {"82 01 00 1c", told{input, 3}}, {"a1 01 02 01", told{input, 3}},
		// A key whose place is behind that of the key around it.
		{"a2 80 00 a2 01 00 01 00 00", told{input, 6}}, {"a2 a1 01 02 00 a1 01 1c", told{input, 7}},
	} {
		fails(t, of(c.s), c.want.code, c.want.at)
	}
}

// R2: with an error the value is the zero struct, whatever had been read by then.
func TestZeroBesideError(t *testing.T) {
	for _, s := range []string{"", "ff", "00 00", "83 01 61 61", "82 c1 01 ff", "a2 61 61 81 01 61 61", "a2 01 02 01", "5f 41 01", "7f 61 61 61 ff", "c1 82 01", "c2 42 01", "c3 5f 41 01", "9f f9 3e 00", "f8 00", "62 61 ff", "fb 00", strings.Repeat("81", 129), strings.Repeat("00", 1048577)} {
		v, err := cborread.Read(of(s))
		w, n, errNext := cborread.Next(of(s), 0)
		if err == nil || v.Kids != nil || v.Int.Mag != nil || !same(v, api.Value{}) {
			t.Errorf("Read(%.80s) = %s, %v", s, show(v), err)
		}
		if errNext != nil && (n != 0 || w.Kids != nil || w.Int.Mag != nil || !same(w, api.Value{})) {
			t.Errorf("Next(%.80s, 0) = %s, %d, %v", s, show(w), n, errNext)
		}
	}
}

// P20.1, R1, R2: anything at all, held against the reference.
func TestAnyString(t *testing.T) {
	r := rule{2043}
	right, wrong := 0, 0
	for range 60000 {
		s := r.anyString(4)
		sameAsReference(t, s)
		if _, err := cborread.Read(s); err == nil {
			right++
		} else {
			wrong++
		}
		if t.Failed() {
			break
		}
	}
	if right < 10000 || wrong < 10000 {
		t.Errorf("%d right, %d wrong", right, wrong)
	}
}

// P20.1: all strings of two bytes, and all of three and four that turn something.
func TestShortStrings(t *testing.T) {
	for n := range 65536 {
		sameAsReference(t, string([]byte{byte(n >> 8), byte(n)}))
	}
	for i := range len(turns) {
		for j := range len(turns) {
			for k := range len(turns) {
				sameAsReference(t, string([]byte{turns[i], turns[j], turns[k]}))
			}
		}
	}
	few := of("00 18 20 41 5f 61 7f 80 82 9f a1 a2 bf c1 c2 c3 f8 ff")
	for n := range len(few) * len(few) * len(few) * len(few) {
		s := make([]byte, 4)
		for i := range s {
			s[i] = few[n%len(few)]
			n /= len(few)
		}
		sameAsReference(t, string(s))
	}
}

// R1: all bytes in any order.
func TestAnyBytes(t *testing.T) {
	r := rule{2044}
	for range 100000 {
		s := make([]byte, r.below(16))
		for i := range s {
			s[i] = byte(r.next())
			if r.below(3) > 0 {
				s[i] = r.wild()
			}
		}
		sameAsReference(t, string(s))
	}
}
