package cborread_test

import (
	"strings"
	"testing"

	"crucible/api"
)

// P20.1: bytes and texts in one piece, with heads of every length.
func TestOnePiece(t *testing.T) {
	for n := range 600 {
		letters := strings.Repeat("a", n)
		for i, head := range heads(2, uint64(n)) {
			reads(t, head+letters, raw(letters))
			other := heads(3, uint64(n))[i]
			reads(t, other+letters, text(letters))
		}
	}
	for b := range 256 {
		s := string([]byte{byte(b)})
		reads(t, "\x41"+s, raw(s))
		reads(t, "\x5f\x41"+s+"\xff", raw(s))
		if b < 128 {
			reads(t, "\x61"+s, text(s))
			reads(t, "\x7f\x61"+s+"\xff", text(s))
		} else {
			fails(t, "\x61"+s, input, 1)
			fails(t, "\x7f\x61"+s+"\xff", input, 2)
		}
	}
	long := strings.Repeat("é", 40000)
	reads(t, "\x7a\x00\x01\x38\x80"+long, text(long))
	reads(t, "\x5a\x00\x01\x38\x80"+long, raw(long))
}

// P20.1: pieces, empty ones too, of any head.
func TestPieces(t *testing.T) {
	for _, c := range []struct {
		s    string
		want api.Value
	}{
		{"5f ff", raw("")}, {"7f ff", text("")}, {"5f 40 ff", raw("")}, {"7f 60 60 ff", text("")}, {"5f 41 ff ff", raw("\xff")}, {"5f 42 ff ff 41 5f ff", raw("\xff\xff\x5f")}, {"7f 61 61 60 61 62 ff", text("ab")}, {"7f 62 c3 a9 78 01 61 ff", text("éa")}, {"5f 41 c3 41 a9 ff", raw("\xc3\xa9")}, {"5f 5b 00 00 00 00 00 00 00 01 07 59 00 00 ff", raw("\x07")}, {"7f 7a 00 00 00 02 61 62 79 00 01 63 ff", text("abc")},
		{"82 5f 41 01 ff 7f ff", list(raw("\x01"), text(""))}, {"bf 7f 61 61 ff 5f ff ff", object(text("a"), raw(""))}, {"c1 7f ff", tag(1, text(""))},
	} {
		reads(t, of(c.s), c.want)
	}
	for _, s := range []string{
		// Another major type, also with a head that is not whole, or open.
		"7f ^ 41 61 ff", "5f ^ 61 61 ff", "5f ^ 00 ff", "5f ^ 20", "5f ^ 78", "7f ^ 58", "5f ^ 80 ff", "5f ^ a0 ff", "5f ^ c2 41 00 ff", "7f ^ f4 ff", "7f ^ f8", "7f ^ f8 00", "5f ^ 9f", "7f ^ bf", "7f ^ 5f ff ff", "5f ^ 7f ff ff", "7f 61 61 ^ 41 62 ff",
		// Pieces within pieces.
		"5f ^ 5f ff ff", "7f ^ 7f ff ff", "5f 41 01 ^ 5f",
		// What begins no item.
		"5f ^ 5c ff", "5f ^ 5d", "7f ^ 7e", "5f ^ 1c", "7f ^ fe", "5f 40 ^ 5e",
		// The end.
		"5f ^", "7f ^", "5f 41 ^", "5f 41 01 ^", "5f 58 ^", "7f 79 00 ^", "7f 61 61 ^", "5f 42 ff ^", "5f 42 ff ff ^",
		// Behind the break nothing may stand.
		"5f ff ^ ff", "7f ff ^ 60", "5f ff ^ 40",
	} {
		failsAt(t, s)
		failsAt(t, "82 00"+s)
	}
}

// P20.1: the first byte with which no text goes on.
func TestWrongTexts(t *testing.T) {
	for _, s := range []string{
		"61 ^ ff", "61 ^ 80", "61 ^ bf", "62 ^ c0 80", "62 ^ c1 bf", "64 ^ f5 80 80 80", "64 ^ f8 80 80 80", "62 61 ^ fe",
		// In the middle of an encoding: what is none behind it.
		"62 c3 ^ 28", "62 c2 ^ 7f", "62 df ^ c0", "63 e2 ^ 28 a1", "63 e2 82 ^ 28", "63 e2 82 ^ c3", "63 e2 82 ^ e2", "64 f0 9f 98 ^ 41", "64 f0 9f ^ 41 41", "64 f0 ^ 41 41 41",
		// Too long for their numbers, surrogates, above all code points.
		"63 e0 ^ 80 80", "63 e0 ^ 9f bf", "63 ed ^ a0 80", "63 ed ^ bf bf", "64 f0 ^ 80 80 80", "64 f0 ^ 8f bf bf", "64 f4 ^ 90 80 80", "64 f4 ^ bf bf bf",
		// No room left.
		"61 ^ c3", "61 ^ c3 a9", "61 ^ e2", "62 ^ e2 82", "62 ^ e2 82 ac", "61 ^ f0", "62 ^ f0 9f", "63 ^ f0 9f 98", "63 ^ f0 9f 98 80", "62 61 ^ c3 a9", "63 c3 a9 ^ c3", "63 61 ^ e2 82", "64 61 ^ f0 9f 98", "65 c3 a9 ^ f0 9f 98", "78 01 ^ c3", "79 00 02 ^ e2 82",
		// A wrong byte ahead of the end of all.
		"63 ^ ff", "78 20 61 ^ ff 61", "7b ff ff ff ff ff ff ff ff ^ ff", "7b ff ff ff ff ff ff ff ff 61 c3 ^ 28", "7a 00 01 00 00 e0 ^ 80", "63 61 ^ e2",
		// The end, within an encoding and between two.
		"61 ^", "62 61 ^", "62 c3 ^", "63 e2 ^", "63 e2 82 ^", "64 61 e2 ^", "64 61 e2 82 ^", "64 f0 ^", "64 f0 9f ^", "64 f0 9f 98 ^", "7b ff ff ff ff ff ff ff ff ^", "7b ff ff ff ff ff ff ff ff c3 ^", "7b ff ff ff ff ff ff ff ff f0 9f 98 ^", "78 ff e1 80 ^",
	} {
		failsAt(t, s)
		failsAt(t, "82 00"+s)
		failsAt(t, "7f 60"+s)
		failsAt(t, "a1"+s)
		failsAt(t, "bf 00 c1"+s)
	}
	// Each piece is a text by itself.
	for _, s := range []string{"7f 61 ^ c3 61 a9 ff", "7f 62 ^ e2 82 61 ac ff", "7f 62 c3 a9 61 ^ a9 ff", "7f 61 61 63 ^ f0 9f 98 61 80 ff"} {
		failsAt(t, s)
	}
}

// P20.1: every two bytes as a text, and every beginning of an encoding with each byte behind it, with room and without.
func TestTextBytes(t *testing.T) {
	for a := range 256 {
		for b := range 256 {
			two := string([]byte{byte(a), byte(b)})
			sameAsReference(t, "\x62"+two)
			sameAsReference(t, "\x61"+two)
			sameAsReference(t, "\x63"+two)
			sameAsReference(t, "\x64"+two)
			sameAsReference(t, "\x64\xf0"+two)
			sameAsReference(t, "\x64\xf4\x8f"+two)
			sameAsReference(t, "\x63\xe2"+two)
			sameAsReference(t, "\x62\xe2"+two)
			sameAsReference(t, "\x65a\xf1\x80"+two)
		}
	}
	r := rule{2021}
	for range 100000 {
		s := r.text() + r.text()
		b := []byte(s)
		for range r.below(3) {
			if len(b) > 0 {
				b[r.below(len(b))] = r.wild()
			}
		}
		// A length that is that of the bytes, or not.
		n := max(0, len(b)+pick(&r, 0, 0, 0, -3, -2, -1, 1, 2, 3, 100))
		m := &maker{rule: &r}
		m.head(3, uint64(n))
		sameAsReference(t, m.String()+string(b))
	}
}

// P20.1: strings that are announced longer than all bytes.
func TestTooShort(t *testing.T) {
	for _, major := range []byte{2, 3} {
		for _, n := range edges() {
			for _, have := range []int{0, 1, 20} {
				if uint64(have) >= n {
					continue
				}
				for _, head := range heads(major, n) {
					s := head + strings.Repeat("a", have)
					fails(t, s, input, len(s))
					fails(t, string([]byte{major<<5 + 31})+s, input, len(s)+1)
				}
			}
		}
	}
}
