package cborwrite_test

import (
	"encoding/binary"
	"slices"
	"strings"
	"testing"

	"crucible/cborread"
	"crucible/cborwrite"
)

// only asks for the first bytes to be canonical, and for each of the others not to be; and so by themselves as in others.
func only(t *testing.T, right string, wrong ...string) {
	t.Helper()
	around := [][2]string{{"", ""}, {"81", ""}, {"83 00", "f6"}, {"a1 61 6b", ""}, {"a1", "00"}, {"c1", ""}, {"a2 60 80 61 6b 81 a1 00 d8 20", ""}}
	for _, a := range around {
		canon(t, of(a[0]+right+a[1]), true)
		for _, s := range wrong {
			canon(t, of(a[0]+s+a[1]), false)
		}
	}
}

// P21.4: heads of the major types 0 and 1 in the fewest bytes.
func TestCanonIntegers(t *testing.T) {
	only(t, "00", "18 00", "19 00 00", "1a 00 00 00 00", "1b 00 00 00 00 00 00 00 00", "f9 00 00", "f9 80 00", "fa 00 00 00 00", "fb 80 00 00 00 00 00 00 00", "c2 40", "c2 41 00", "1c", "1f")
	only(t, "17", "18 17", "19 00 17", "c2 41 17", "f9 4d c0")
	only(t, "18 18", "19 00 18", "1a 00 00 00 18", "c2 41 18", "f9 4e 00", "18 17", "18")
	only(t, "18 ff", "19 00 ff", "c2 41 ff")
	only(t, "19 01 00", "1a 00 00 01 00", "c2 42 01 00", "f9 5c 00")
	only(t, "1a 00 01 00 00", "1b 00 00 00 00 00 01 00 00", "19 ff", "fa 47 80 00 00")
	only(t, "1b 00 00 00 01 00 00 00 00", "1b 00 00 00 00 ff ff ff ff", "c2 45 01 00 00 00 00", "fa 4f 80 00 00")
	only(t, "20", "38 00", "c3 40", "c3 41 00", "f9 bc 00", "3c", "3f")
	only(t, "3b ff ff ff ff ff ff ff ff", "c3 48 ff ff ff ff ff ff ff ff", "fa df 80 00 00", "fb c3 f0 00 00 00 00 00 00")
	for _, arg := range []uint64{0, 1, 22, 23, 24, 25, 254, 255, 256, 257, 65534, 65535, 65536, 65537, 1<<32 - 2, 1<<32 - 1, 1 << 32, 1<<32 + 1, 1<<63 - 1, 1 << 63, 1<<64 - 2, 1<<64 - 1} {
		for major := range byte(2) {
			for i, s := range heads(major, arg) {
				canon(t, s, i == 0)
				canon(t, "\x81"+s, i == 0)
			}
		}
	}
}

// P21.4: great numbers above 8 bytes, without a byte 0 ahead.
func TestCanonGreat(t *testing.T) {
	only(t, "c2 49 01 00 00 00 00 00 00 00 00", "c2 48 ff ff ff ff ff ff ff ff", "c2 49 00 ff ff ff ff ff ff ff ff", "c2 4a 00 01 00 00 00 00 00 00 00 00", "d8 02 49 01 00 00 00 00 00 00 00 00", "c2 58 09 01 00 00 00 00 00 00 00 00", "c2 5f 49 01 00 00 00 00 00 00 00 00 ff", "fa 5f 80 00 00", "c2 69 01 00 00 00 00 00 00 00 00", "c2 49 01 00 00 00 00 00 00 00", "c2 c2 49 01 00 00 00 00 00 00 00 00", "c2 00", "c2 80", "c2 f6", "c2")
	only(t, "c3 49 ff ff ff ff ff ff ff ff ff", "c3 48 ff ff ff ff ff ff ff ff", "c3 49 00 ff ff ff ff ff ff ff ff", "c3 4a 00 ff ff ff ff ff ff ff ff ff", "d8 03 49 ff ff ff ff ff ff ff ff ff", "c3 01", "c3 40", "c3")
	for n := range 300 {
		bytes := strings.Repeat("\x80", n)
		for _, tag := range []string{"\xc2", "\xc3"} {
			canon(t, tag+counted(2, bytes), n > 8)
			canon(t, tag+counted(2, "\x00"+bytes), false)
			canon(t, tag+counted(3, strings.Repeat("a", n)), false)
		}
	}
	// Other tags over bytes are tags, whatever the bytes.
	only(t, "c4 41 05", "c4 58 01 05", "c2 41 05")
	only(t, "c1 40", "c2 40", "d8 01 40", "c1")
	only(t, "c5 c2 49 01 00 00 00 00 00 00 00 00", "c5 c2 41 01", "c2 c5 49 01 00 00 00 00 00 00 00 00")
}

// P21.4: floats in their narrowest width, and none that is a whole number.
func TestCanonFloats(t *testing.T) {
	only(t, "f9 3e 00", "fa 3f c0 00 00", "fb 3f f8 00 00 00 00 00 00", "f9 3e", "f9", "fc", "fd")
	only(t, "f9 7e 00", "f9 7e 01", "f9 fe 00", "f9 7c 01", "f9 7d ff", "f9 7f ff", "fa 7f c0 00 00", "fa 7f 80 00 01", "fa ff c0 00 00", "fb 7f f8 00 00 00 00 00 00", "fb ff f8 00 00 00 00 00 01")
	only(t, "f9 7c 00", "fa 7f 80 00 00", "fb 7f f0 00 00 00 00 00 00")
	only(t, "f9 fc 00", "fa ff 80 00 00", "fb ff f0 00 00 00 00 00 00")
	only(t, "f9 00 01", "fa 33 80 00 00", "fb 3e 70 00 00 00 00 00 00")
	only(t, "fa 3f 80 00 01", "fb 3f f0 00 00 20 00 00 00", "fa 3f 80 00 00", "fa 3f 80")
	only(t, "fa 00 00 00 01", "fb 36 a0 00 00 00 00 00 00", "fa 00 00 00 00", "fa 80 00 00 00")
	only(t, "fb 3f b9 99 99 99 99 99 9a", "fb 3f b9 99 99 a0 00 00 00", "fb 3f b9 99 99 99 99 99", "fb 40 00 00 00 00 00 00 00", "fb 43 40 00 00 00 00 00 01", "fb 7f ef ff ff ff ff ff ff")
	only(t, "fb 00 00 00 00 00 00 00 01", "fb 00 00 00 00 00 00 00 00")
	r := rule{2110}
	right := 0
	for bits := range 65536 {
		s := string(binary.BigEndian.AppendUint16([]byte{0xf9}, uint16(bits)))
		canon(t, s, isCanonical(s))
		if isCanonical(s) {
			right++
		}
		// In a wider form never.
		f := half(uint16(bits))
		for _, form := range floats(f)[1:] {
			canon(t, form, false)
		}
	}
	// All but whole numbers and what is no number or infinite: of each sign those below 1 but 0, and those up to 1024 that are no whole numbers.
	if right != 3+2*(1024*15-1+10*1024-1023) {
		t.Errorf("%d of 16 bits are canonical", right)
	}
	for range 50000 {
		wide := string(binary.BigEndian.AppendUint32([]byte{0xfa}, uint32(r.next())))
		canon(t, wide, isCanonical(wide))
		wide = string(binary.BigEndian.AppendUint64([]byte{0xfb}, r.next()>>r.below(64)<<r.below(64)))
		canon(t, wide, isCanonical(wide))
	}
}

// P21.4: simple values and words.
func TestCanonSimple(t *testing.T) {
	only(t, "f4", "f8 14", "f8 00", "fc", "fd", "fe", "ff")
	only(t, "f5", "f8 15")
	only(t, "f6", "f8 16")
	only(t, "f7", "f8 17", "f8 18", "f8 1f")
	for b := range 256 {
		canon(t, string([]byte{0xf8, byte(b)}), b >= 32)
		canon(t, string([]byte{byte(b)}), b <= 0x17 || b >= 0x20 && b <= 0x37 || b == 0x40 || b == 0x60 || b == 0x80 || b == 0xa0 || b >= 0xe0 && b <= 0xf7)
	}
}

// P21.4: texts and bytes in one piece, behind the shortest head, and texts that are texts.
func TestCanonStrings(t *testing.T) {
	only(t, "40", "58 00", "5f ff", "5f 40 ff", "59 00 00", "5c")
	only(t, "41 ff", "58 01 ff", "5f 41 ff ff", "61 ff", "41")
	only(t, "43 01 02 03", "5f 41 01 42 02 03 ff", "59 00 03 01 02 03", "43 01 02")
	only(t, "60", "78 00", "7f ff", "7f 60 ff")
	only(t, "61 61", "78 01 61", "7f 61 61 ff", "61", "61 80")
	only(t, "62 c3 a9", "62 c3 28", "61 c3", "62 c0 80", "7f 61 c3 61 a9 ff", "63 c3 a9", "62 a9 c3")
	only(t, "64 f0 9f 98 80", "66 ed a0 bd ed b8 80", "63 ed a0 80", "64 f4 90 80 80", "63 f0 9f 98", "64 f0 8f bf bf", "65 f8 88 80 80 80")
	only(t, "63 ef bb bf", "63 e0 80 80", "61 fe")
	for _, n := range []int{22, 23, 24, 25, 254, 255, 256, 257, 65535, 65536} {
		s := strings.Repeat("a", n)
		for major := byte(2); major < 4; major++ {
			for i, head := range heads(major, uint64(n)) {
				canon(t, head+s, i == 0)
				canon(t, head+s+"a", false)
				canon(t, head+s[1:], false)
			}
		}
	}
}

// P21.4: lists, maps and tags behind the shortest head, with as many items as they say.
func TestCanonContainers(t *testing.T) {
	only(t, "80", "98 00", "9f ff", "9b 00 00 00 00 00 00 00 00", "9c", "9f")
	only(t, "82 01 02", "98 02 01 02", "9f 01 02 ff", "82 01", "82 01 18 02", "81 ff")
	only(t, "a0", "b8 00", "bf ff", "bc", "bf")
	only(t, "a1 01 02", "bf 01 02 ff", "b8 01 01 02", "a1 01", "a1 18 01 02", "a1 01 18 02", "a1 01 ff")
	only(t, "c1 01", "d8 01 01", "d9 00 01 01", "c1", "c1 18 01", "dc 01", "df 01")
	only(t, "d8 18 40", "d9 00 18 40", "da 00 00 00 18 40", "d8 17 40", "d8 02 40", "d8 03 40")
	only(t, "d9 d9 f7 a0", "da 00 00 d9 f7 a0", "d9 d9 f7 bf ff")
	only(t, "db ff ff ff ff ff ff ff ff 00", "db 00 00 00 00 ff ff ff ff 00", "db ff ff ff ff ff ff ff 00")
	for _, s := range []string{"", "00 00", "80 80", "a0 00", "f6 f6", "1c", "ff", "9b ff ff ff ff ff ff ff ff 00", "bb ff ff ff ff ff ff ff ff 00", "bb 80 00 00 00 00 00 00 00", "5b ff ff ff ff ff ff ff ff 00", "7b 7f ff ff ff ff ff ff ff 61"} {
		canon(t, of(s), false)
	}
	for _, n := range []int{22, 23, 24, 25, 255, 256} {
		for i, head := range heads(4, uint64(n)) {
			canon(t, head+strings.Repeat("\xf6", n), i == 0)
			canon(t, head+strings.Repeat("\xf6", n+1), false)
			canon(t, head+strings.Repeat("\xf6", n-1), false)
		}
	}
}

// P21.4: keys rise by their bytes, and none comes twice.
func TestCanonKeys(t *testing.T) {
	for _, keys := range [][]string{
		{"00", "01", "17", "18 18", "18 ff", "19 01 00", "20", "37", "38 18", "40", "41 00", "60", "61 61", "61 62", "62 61 61", "80", "81 00", "82 00 00", "a0", "a1 00 00", "c1 00", "c2 49 01 00 00 00 00 00 00 00 00", "c3 49 01 00 00 00 00 00 00 00 00", "c4 00", "e0", "f3", "f4", "f5", "f6", "f7", "f8 20", "f8 ff", "f9 00 01", "f9 3e 00", "f9 7c 00", "f9 7e 00", "f9 be 00", "f9 fc 00", "fa 3f 80 00 01", "fb 3f b9 99 99 99 99 99 9a"},
		{"62 c3 a9", "63 ef ac 80", "64 f0 9f 98 80"}, {"0a", "18 64", "20", "61 7a", "81 18 64", "f4"}, {"61 62", "62 61 61"}, {"20", "21", "22"},
	} {
		made := func(keys []string) string {
			out := shortest(5, uint64(len(keys)))
			for i, key := range keys {
				out += of(key) + shortest(0, uint64(i))
			}
			return out
		}
		canon(t, made(keys), true)
		for i := range keys {
			for j := range i {
				other := slices.Clone(keys)
				other[i], other[j] = other[j], other[i]
				canon(t, made(other), false)
				other[i] = other[j]
				canon(t, made(other), false)
			}
			canon(t, made(slices.Insert(slices.Clone(keys), i, keys[i])), false)
			canon(t, made(slices.Delete(slices.Clone(keys), i, i+1)), true)
		}
	}
	// In maps that stand in others, as keys and as values too.
	only(t, "a2 a1 61 61 00 00 a1 61 62 00 00", "a2 a1 61 62 00 00 a1 61 61 00 00", "a1 a2 61 62 00 61 61 00 00", "a1 00 a2 61 62 00 61 61 00", "a2 01 02 f9 3c 00 03", "a2 01 02 18 01 03")
}

// P21.4: all short strings of some bytes.
func TestCanonShort(t *testing.T) {
	bytes := of("00 01 18 20 41 61 81 82 a1 a2 c1 c2 f6 f8 f9 ff")
	right := 0
	var all func(s string, more int)
	all = func(s string, more int) {
		got := cborwrite.Canon(s)
		if got != isCanonical(s) {
			t.Errorf("Canon(%s) = %v", hexed(s), got)
		}
		if got {
			right++
		}
		if more > 0 {
			for i := range len(bytes) {
				all(s+bytes[i:i+1], more-1)
			}
		}
	}
	all("", 4)
	if right < 500 {
		t.Errorf("%d canonical", right)
	}
	// And of any bytes the shorter ones.
	for a := range 65536 {
		s := string([]byte{byte(a >> 8), byte(a)})
		canon(t, s, isCanonical(s))
	}
}

// P21.4: canonical documents, and such that were changed in some bytes or are written in another way.
func TestCanonAny(t *testing.T) {
	r := rule{2111}
	for range 10000 {
		s := r.anyString(3)
		canon(t, s, isCanonical(s))
		v := r.value(3, false)
		canon(t, document(v), true)
		s = r.loosely(v)
		canon(t, s, isCanonical(s))
		if read, err := cborread.Read(s); err != nil || !same(read, v) {
			t.Fatalf("%s is %s, %v, want %s", hexed(s), show(read), err, show(v))
		}
	}
	for range 30000 {
		s := make([]byte, r.below(12))
		for i := range s {
			s[i] = r.wild()
		}
		canon(t, string(s), isCanonical(string(s)))
	}
}

// P21.4: each byte of a canonical document changed in every way.
func TestCanonChanged(t *testing.T) {
	s := document(object(no, simple(40), num(-500), list(float(half3), whole("18446744073709551616"), text("é")), text("a"), tag(32, raw("\x00")), list(), float(0x3fb999999999999a)))
	canon(t, s, true)
	for at := range len(s) {
		canon(t, s[:at], false)
		for b := range 256 {
			other := s[:at] + string([]byte{byte(b)}) + s[at+1:]
			canon(t, other, isCanonical(other))
			other = s[:at] + string([]byte{byte(b)}) + s[at:]
			canon(t, other, isCanonical(other))
		}
	}
}
