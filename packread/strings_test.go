package packread_test

import (
	"strings"
	"testing"

	"crucible/api"
)

// P23.1: texts, bytes and extensions of every length about the edges of the families, with heads of every family.
func TestLengths(t *testing.T) {
	lengths := []int{65533, 65534, 65535, 65536, 65537, 100000}
	for n := range 300 {
		lengths = append(lengths, n)
	}
	for _, n := range lengths {
		letters := strings.Repeat("a", n)
		for kind, want := range map[api.Kind]api.Value{api.VText: text(letters), api.VBytes: raw(letters), api.VExt: extension(-7, letters)} {
			for _, head := range heads(kind, n) {
				if kind == api.VExt {
					head += "\xf9"
				}
				reads(t, head+letters, want)
				fails(t, head+letters+"a", input, len(head)+n)
				for _, less := range []int{1, 2, n} {
					if less > 0 && less <= n {
						fails(t, head+letters[less:], input, len(head)+n-less)
					}
				}
				fails(t, head[:len(head)-1], input, len(head)-1)
			}
		}
	}
}

// P23.1: every byte as bytes, as a text, as the type and as the bytes of an extension.
func TestEveryByte(t *testing.T) {
	for b := range 256 {
		s := string([]byte{byte(b)})
		reads(t, "\xc4\x01"+s, raw(s))
		reads(t, "\xd4"+s+s, extension(int8(b), s))
		reads(t, "\xc7\x00"+s, extension(int8(b), ""))
		reads(t, "\xc7\x03"+s+"abc", extension(int8(b), "abc"))
		reads(t, "\xd5"+s+"\x00\xff", extension(int8(b), "\x00\xff"))
		if b < 128 {
			reads(t, "\xa1"+s, text(s))
			reads(t, "\xd9\x01"+s, text(s))
			continue
		}
		fails(t, "\xa1"+s, input, 1)
		fails(t, "\xd9\x01"+s, input, 2)
	}
}

// P23.1: extensions that end within their heads and within their bytes.
func TestExtensionsCut(t *testing.T) {
	for _, s := range []string{"d4 ^", "d5 ^", "d8 ^", "d4 00 ^", "d5 00 ^", "d5 00 00 ^", "d6 00 00 00 00 ^", "d7 00 00 00 00 00 00 00 00 ^", "d8 c1 00 00 00 00 00 00 00 00 00 00 00 00 00 00 00 ^", "c7 ^", "c7 00 ^", "c7 01 ^", "c7 01 05 ^", "c7 ff 05 c1 ^", "c8 ^", "c8 00 ^", "c8 00 00 ^", "c8 00 01 05 ^", "c9 ^", "c9 00 00 00 ^", "c9 00 00 00 00 ^", "c9 ff ff ff ff ^", "c9 ff ff ff ff ff ^", "c9 ff ff ff ff ff ff ^", "d4 00 00 ^ 00", "c7 00 00 ^ 00"} {
		failsAt(t, s)
		failsAt(t, "92 00"+s)
	}
}

// P23.1: the first byte with which no text goes on.
func TestWrongTexts(t *testing.T) {
	for _, s := range []string{
		"a1 ^ ff", "a1 ^ 80", "a1 ^ bf", "a2 ^ c0 80", "a2 ^ c1 bf", "a4 ^ f5 80 80 80", "a4 ^ f8 80 80 80", "a2 61 ^ fe",
		// In the middle of an encoding: what is none behind it.
		"a2 c3 ^ 28", "a2 c2 ^ 7f", "a2 df ^ c0", "a3 e2 ^ 28 a1", "a3 e2 82 ^ 28", "a3 e2 82 ^ c3", "a3 e2 82 ^ e2", "a4 f0 9f 98 ^ 41", "a4 f0 9f ^ 41 41", "a4 f0 ^ 41 41 41",
		// Too long for their numbers, surrogates, above all code points.
		"a3 e0 ^ 80 80", "a3 e0 ^ 9f bf", "a3 ed ^ a0 80", "a3 ed ^ bf bf", "a4 f0 ^ 80 80 80", "a4 f0 ^ 8f bf bf", "a4 f4 ^ 90 80 80", "a4 f4 ^ bf bf bf",
		// No room left.
		"a1 ^ c3", "a1 ^ c3 a9", "a1 ^ e2", "a2 ^ e2 82", "a2 ^ e2 82 ac", "a1 ^ f0", "a2 ^ f0 9f", "a3 ^ f0 9f 98", "a3 ^ f0 9f 98 80", "a2 61 ^ c3 a9", "a3 c3 a9 ^ c3", "a3 61 ^ e2 82", "a4 61 ^ f0 9f 98", "a5 c3 a9 ^ f0 9f 98", "d9 01 ^ c3", "da 00 02 ^ e2 82", "db 00 00 00 03 ^ f0 9f 98 80",
		// A wrong byte ahead of the end of all.
		"a3 ^ ff", "d9 20 61 ^ ff 61", "db ff ff ff ff ^ ff", "db ff ff ff ff 61 c3 ^ 28", "db 00 01 00 00 e0 ^ 80", "a3 61 ^ e2", "a2 ^ e2", "a1 ^ f4",
		// The end, within an encoding and between two.
		"a1 ^", "a2 61 ^", "a2 c3 ^", "a3 e2 ^", "a3 e2 82 ^", "a4 61 e2 ^", "a4 61 e2 82 ^", "a4 f0 ^", "a4 f0 9f ^", "a4 f0 9f 98 ^", "db ff ff ff ff ^", "db ff ff ff ff c3 ^", "db ff ff ff ff f0 9f 98 ^", "d9 ff e1 80 ^", "a4 f4 ^", "a4 f4 8f ^", "a3 ed ^", "a3 ed 9f ^",
		"d9 ^", "da ^", "da 00 ^", "db ^", "db 00 00 00 ^",
	} {
		failsAt(t, s)
		failsAt(t, "92 00"+s)
		failsAt(t, "81"+s)
		failsAt(t, "de 00 01 c0"+s)
	}
}

// P23.1: every two bytes as a text, and every beginning of an encoding with each byte behind it, with room and without.
func TestTextBytes(t *testing.T) {
	for a := range 256 {
		for b := range 256 {
			two := string([]byte{byte(a), byte(b)})
			sameAsReference(t, "\xa2"+two)
			sameAsReference(t, "\xa1"+two)
			sameAsReference(t, "\xa3"+two)
			sameAsReference(t, "\xa4"+two)
			sameAsReference(t, "\xa4\xf0"+two)
			sameAsReference(t, "\xa4\xf4\x8f"+two)
			sameAsReference(t, "\xa3\xe2"+two)
			sameAsReference(t, "\xa2\xe2"+two)
			sameAsReference(t, "\xa5a\xf1\x80"+two)
		}
	}
	r := rule{2321}
	for range 100000 {
		s := r.text() + r.text()
		b := []byte(s)
		for range r.below(3) {
			if len(b) > 0 {
				b[r.below(len(b))] = r.wild()
			}
		}
		// A length that is that of the bytes, or not.
		n := max(0, len(b)+pick(&r, 0, 0, 0, -3, -2, -1, 1, 2, 3, 100))
		m := &maker{rule: &r}
		m.head(api.VText, n)
		sameAsReference(t, m.String()+string(b))
	}
}

// P23.1: what is announced longer than all bytes.
func TestTooShort(t *testing.T) {
	for _, kind := range []api.Kind{api.VText, api.VBytes, api.VExt, api.VList, api.VMap} {
		for _, n := range []int{20, 31, 32, 100, 127, 128, 200, 255, 256, 1000, 32767, 32768, 65535, 65536, 1 << 20, 1<<20 + 1, 1<<31 - 1, 1 << 31, 1<<32 - 1} {
			for _, have := range []int{0, 1, 2, 18} {
				for _, head := range heads(kind, n) {
					s := head + strings.Repeat("\x11", have)
					if kind == api.VMap && have > 2 {
						fails(t, s, input, len(head)+2)
						continue
					}
					if kind == api.VExt && have > n {
						continue
					}
					fails(t, s, input, len(s))
					fails(t, "\x92\x00"+s, input, len(s)+2)
				}
			}
		}
	}
}
