package packread_test

import (
	"strings"
	"testing"

	"crucible/api"
	"crucible/packread"
)

// P23.1: every first byte by itself, and with others behind it.
func TestFirstBytes(t *testing.T) {
	for first := range 256 {
		s := string([]byte{byte(first)})
		sameAsReference(t, s)
		for _, behind := range []string{"\x00", "\x05\x00", "\xff", "\xc1", "\x80", "\xa0", strings.Repeat("\x00", 8), strings.Repeat("\x00", 9), strings.Repeat("\x01", 17), strings.Repeat("\x01", 18), strings.Repeat("\x00\x01", 40), strings.Repeat("\xff", 40), strings.Repeat("\x61", 60), strings.Repeat("\x01", 300), "\x00\x01\xc1", "\x00\x00\x00\x01\xc1", "\x01\xc1\xc1"} {
			sameAsReference(t, s+behind)
			sameAsReference(t, "\x92\x00"+s+behind)
			sameAsReference(t, "\x81"+s+behind)
		}
		// As many bytes as any family may ask for, one by one.
		for n := range 20 {
			sameAsReference(t, s+strings.Repeat("\x00", n))
			sameAsReference(t, s+strings.Repeat("\x02", n))
			sameAsReference(t, s+strings.Repeat("\xd4", n))
		}
	}
	for _, ahead := range []string{"", "91", "92 01", "dc 00 01", "dd 00 00 00 02 c0", "81", "81 00", "de 00 01", "df 00 00 00 02 01 02", "82 91 80 90", "9f 00"} {
		failsAt(t, ahead+"^ c1")
		failsAt(t, ahead+"^ c1 00 00 00 00 00 00 00 00 00")
	}
	// Where no item begins c1 is a byte as any other.
	reads(t, of("93 c4 01 c1 cc c1 d4 c1 c1"), list(raw("\xc1"), whole("193"), extension(-63, "\xc1")))
}

// P23.1: what stands behind the item, whatever it is.
func TestBehind(t *testing.T) {
	r := rule{2341}
	for range 3000 {
		x := r.made(3, false)
		for _, behind := range []string{"\x00", "\xff", "\xc1", "\xa1", "\xdf", x.s, r.anyString(2) + "\x00"} {
			fails(t, x.s+behind, input, len(x.s))
		}
	}
}

// P23.1: a document that is cut ends within the item.
func TestNotEnded(t *testing.T) {
	r := rule{2342}
	for range 1000 {
		x := r.made(4, false)
		for n := range len(x.s) {
			fails(t, x.s[:n], input, n)
		}
	}
}

// P23.1: what is found first counts: neither the lesser place nor the sort.
func TestFoundFirst(t *testing.T) {
	deep := strings.Repeat("91", 130)
	for _, c := range []struct {
		s    string
		want told
	}{
		// A key that stands twice ahead of what stands too deep, and the other way round.
		{"82 01 00 01" + deep, told{input, 3}}, {"82 01" + deep, told{limit, 2 + 127}}, {"82" + deep, told{limit, 1 + 127}}, {"82 01 00 02" + deep, told{limit, 4 + 127}}, {"83 01 00 01 00 02" + deep, told{input, 3}}, {"83 01 00 02" + deep, told{limit, 4 + 127}}, {"82 01 00" + deep, told{limit, 3 + 127}},
		// A wrong byte ahead of what stands too deep.
		{"92 c1" + deep, told{input, 1}}, {"93 01" + deep + "c1", told{limit, 2 + 127}},
		// What stands behind comes last.
		{"82 01 00 01 00 00", told{input, 3}}, {"92 01 00 c1", told{input, 3}}, {"81 01 02 01", told{input, 3}},
		// A key whose place is behind that of the key around it.
		{"82 80 00 82 01 00 01 00 00", told{input, 6}}, {"82 81 01 02 00 81 01 c1", told{input, 7}},
		// Several keys that stand twice, the greater one first; one that stands three times.
		{"84 02 00 01 00 02 00 01 00", told{input, 5}}, {"84 01 00 02 00 02 00 01 00", told{input, 5}}, {"84 02 00 01 00 01 00 02 00", told{input, 5}}, {"83 01 00 01 00 01 00", told{input, 3}}, {"85 03 00 01 00 02 00 03 00 03 00", told{input, 7}},
		// Within a value behind a key that stands twice, and within one ahead of it.
		{"82 01 00 01 82 05 00 05 00", told{input, 3}}, {"82 01 82 05 00 05 00 01 00", told{input, 5}}, {"82 01 00 82 05 00 05 00 00", told{input, 6}}, {"83 01 00 01 00 c1", told{input, 3}}, {"83 01 00 02 00 c1", told{input, 5}}, {"83 01 00 01 00 a1 ff", told{input, 3}}, {"df ff ff ff ff 01 00 01", told{input, 7}}, {"df ff ff ff ff 01 00 02", told{input, 8}},
		{"82 01 00 92 01 82 01 00 01 c1", told{input, 8}}, {"82 91 01 00 91 82 01 00 01 c1", told{input, 8}},
	} {
		fails(t, of(c.s), c.want.code, c.want.at)
		sameAsReference(t, of(c.s))
	}
}

// R2: with an error the value is the zero struct, whatever had been read by then.
func TestZeroBesideError(t *testing.T) {
	for _, s := range []string{"", "c1", "00 00", "93 01 a1 61", "92 91 01 c1", "82 a1 61 91 01 a1 61", "82 01 02 01", "c4 02 01", "a2 61", "91 92 01", "d0", "d3 00", "92 ca 3f c0 00 00", "d4", "d4 05", "c7 02 05 01", "a2 61 ff", "cb 00", "81 01", "81", strings.Repeat("91", 129), strings.Repeat("00", 1048577)} {
		v, err := packread.Read(of(s))
		w, n, errNext := packread.Next(of(s), 0)
		if err == nil || v.Kids != nil || v.Int.Mag != nil || !same(v, api.Value{}) {
			t.Errorf("Read(%.80s) = %s, %v", s, show(v), err)
		}
		if errNext != nil && (n != 0 || w.Kids != nil || w.Int.Mag != nil || !same(w, api.Value{})) {
			t.Errorf("Next(%.80s, 0) = %s, %d, %v", s, show(w), n, errNext)
		}
	}
}

// P23.1, R1, R2: anything at all, held against the reference.
func TestAnyString(t *testing.T) {
	r := rule{2343}
	right, wrong := 0, 0
	for range 60000 {
		s := r.anyString(4)
		sameAsReference(t, s)
		if _, err := packread.Read(s); err == nil {
			right++
		} else {
			wrong++
		}
		if t.Failed() {
			break
		}
	}
	if right < 10000 || wrong < 10000 {
		t.Errorf("%d right, %d wrong", right, wrong)
	}
}

// P23.1: all strings of two bytes, and all of three and four that turn something.
func TestShortStrings(t *testing.T) {
	for n := range 65536 {
		sameAsReference(t, string([]byte{byte(n >> 8), byte(n)}))
	}
	for i := range len(turns) {
		for j := range len(turns) {
			for k := range len(turns) {
				sameAsReference(t, string([]byte{turns[i], turns[j], turns[k]}))
			}
		}
	}
	few := of("00 01 02 61 80 81 82 90 91 92 a1 c0 c1 c3 c4 c7 cc d0 d4 d9 ff")
	for n := range len(few) * len(few) * len(few) * len(few) {
		s := make([]byte, 4)
		for i := range s {
			s[i] = few[n%len(few)]
			n /= len(few)
		}
		sameAsReference(t, string(s))
	}
}

// R1: all bytes in any order.
func TestAnyBytes(t *testing.T) {
	r := rule{2344}
	for range 100000 {
		s := make([]byte, r.below(16))
		for i := range s {
			s[i] = byte(r.next())
			if r.below(3) > 0 {
				s[i] = r.wild()
			}
		}
		sameAsReference(t, string(s))
	}
}
