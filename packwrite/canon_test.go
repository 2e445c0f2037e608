package packwrite_test

import (
	"encoding/binary"
	"math"
	"slices"
	"strings"
	"testing"

	"crucible/api"
	"crucible/packread"
	"crucible/packwrite"
)

// only asks for the first bytes to be canonical, and for each of the others not to be; and so by themselves as in others.
func only(t *testing.T, right string, wrong ...string) {
	t.Helper()
	around := [][2]string{{"", ""}, {"91", ""}, {"93 00", "c0"}, {"81 a1 6b", ""}, {"81", "00"}, {"82 a0 90 a1 6b 81 80 92 00", ""}}
	for _, a := range around {
		canon(t, of(a[0]+right+a[1]), true)
		for _, s := range wrong {
			canon(t, of(a[0]+s+a[1]), false)
		}
	}
}

// P24.4: whole numbers in the least family that holds them, never as floats.
func TestCanonIntegers(t *testing.T) {
	only(t, "00", "cc 00", "cd 00 00", "ce 00 00 00 00", "cf 00 00 00 00 00 00 00 00", "d0 00", "d1 00 00", "ca 00 00 00 00", "ca 80 00 00 00", "cb 00 00 00 00 00 00 00 00", "cb 80 00 00 00 00 00 00 00")
	only(t, "7f", "cc 7f", "d0 7f", "cd 00 7f", "ca 42 fe 00 00")
	only(t, "cc 80", "cd 00 80", "d1 00 80", "ca 43 00 00 00", "cc")
	only(t, "cc ff", "cd 00 ff", "ce 00 00 00 ff", "d1 00 ff")
	only(t, "cd 01 00", "ce 00 00 01 00", "d1 01 00", "cd 01")
	only(t, "ce 00 01 00 00", "cf 00 00 00 00 00 01 00 00", "d2 00 01 00 00", "ce 00 00 ff ff", "ca 47 80 00 00", "ce 00 01 00")
	only(t, "cf 00 00 00 01 00 00 00 00", "cf 00 00 00 00 ff ff ff ff", "d3 00 00 00 01 00 00 00 00", "ca 4f 80 00 00", "cf 00 00 00 01 00 00 00")
	only(t, "cf ff ff ff ff ff ff ff ff", "cf 7f ff ff ff ff ff ff", "d3 7f ff ff ff ff ff ff ff")
	only(t, "cf 80 00 00 00 00 00 00 00", "ca 5f 00 00 00", "cb 43 e0 00 00 00 00 00 00")
	only(t, "ff", "d0 ff", "d1 ff ff", "d2 ff ff ff ff", "d3 ff ff ff ff ff ff ff ff", "ca bf 80 00 00", "cb bf f0 00 00 00 00 00 00")
	only(t, "e0", "d0 e0", "d1 ff e0", "ca c2 00 00 00")
	only(t, "d0 df", "d1 ff df", "d0 e0", "d0")
	only(t, "d0 80", "d1 ff 80", "ca c3 00 00 00")
	only(t, "d1 ff 7f", "d2 ff ff ff 7f", "d1 ff")
	only(t, "d2 ff ff 7f ff", "d3 ff ff ff ff ff ff 7f ff", "d2 ff ff 80 00", "d2 ff ff 7f")
	only(t, "d3 ff ff ff ff 7f ff ff ff", "d3 ff ff ff ff 80 00 00 00", "d3 ff ff ff ff 7f ff ff")
	only(t, "d3 80 00 00 00 00 00 00 00", "ca df 00 00 00", "cb c3 e0 00 00 00 00 00 00")
	edges := []uint64{0, 1, 31, 32, 33, 127, 128, 129, 255, 256, 257, 32767, 32768, 32769, 65535, 65536, 65537, 1<<31 - 1, 1 << 31, 1<<31 + 1, 1<<32 - 1, 1 << 32, 1<<32 + 1, 1<<63 - 1, 1 << 63, 1<<64 - 1}
	for _, n := range edges {
		for _, x := range []uint64{n, -n, ^n} {
			for i, wide := range []int{1, 2, 4, 8} {
				for _, first := range []byte{0xcc, 0xd0} {
					s := inBytes(first+byte(i), wide, x)
					canon(t, s, isCanonical(s))
					canon(t, "\x91"+s, isCanonical(s))
				}
			}
		}
	}
	r := rule{2409}
	for range 5000 {
		for i, s := range integers(bigOf(r.integer())) {
			canon(t, s, i == 0)
		}
	}
	// All of 8 and 16 bits.
	for x := range uint64(1 << 16) {
		canon(t, inBytes(0xcd, 2, x), x > 0xff)
		canon(t, inBytes(0xd1, 2, x), x >= 0x8000 && x < 0xff80)
		canon(t, inBytes(0xcc, 1, x&0xff), x&0xff > 0x7f)
		canon(t, inBytes(0xd0, 1, x&0xff), x&0xff >= 0x80 && x&0xff < 0xe0)
	}
}

// P24.4: floats in the least width, and of whole numbers only those that are in no other family.
func TestCanonFloats(t *testing.T) {
	only(t, "ca 3f c0 00 00", "cb 3f f8 00 00 00 00 00 00", "ca 3f c0 00", "ca")
	only(t, "ca 7f c0 00 00", "ca 7f c0 00 01", "ca ff c0 00 00", "ca 7f 80 00 01", "ca 7f ff ff ff", "cb 7f f8 00 00 00 00 00 00", "cb ff f8 00 00 00 00 00 01", "cb 7f f0 00 00 00 00 00 01")
	only(t, "ca 7f 80 00 00", "cb 7f f0 00 00 00 00 00 00")
	only(t, "ca ff 80 00 00", "cb ff f0 00 00 00 00 00 00")
	only(t, "ca 3f 80 00 01", "cb 3f f0 00 00 20 00 00 00", "ca 3f 80 00 00")
	only(t, "ca 00 00 00 01", "cb 36 a0 00 00 00 00 00 00", "ca 00 00 00 00", "ca 80 00 00 00")
	only(t, "cb 3f b9 99 99 99 99 99 9a", "cb 3f b9 99 99 a0 00 00 00", "cb 3f b9 99 99 99 99 99", "cb 40 00 00 00 00 00 00 00", "cb")
	only(t, "cb 00 00 00 00 00 00 00 01", "cb 00 00 00 00 00 00 00 00")
	// Outside: from 2 to the power of 64 on, and below -2 to the power of 63.
	only(t, "ca 5f 80 00 00", "cb 43 f0 00 00 00 00 00 00", "ca 5f 7f ff ff", "ca 5f 00 00 00")
	only(t, "ca df 00 00 01", "cb c3 e0 00 00 20 00 00 00", "ca df 00 00 00", "ca de ff ff ff")
	only(t, "cb 43 f0 00 00 00 00 00 01", "cb 43 ef ff ff ff ff ff ff", "cb 43 e0 00 00 00 00 00 01", "cb 43 40 00 00 00 00 00 01")
	only(t, "cb c3 e0 00 00 00 00 00 01", "cb c3 df ff ff ff ff ff ff", "cb c3 e0 00 00 00 00 00 00")
	only(t, "ca 7f 7f ff ff", "cb 47 ef ff ff e0 00 00 00")
	only(t, "cb 7f ef ff ff ff ff ff ff", "cb 47 f0 00 00 00 00 00", "cb 47 ef ff ff e0 00 00 00")
	only(t, "cb 47 f0 00 00 00 00 00 00", "ca 7f 80 00 02")
	r := rule{2410}
	right := 0
	for bits := range uint32(1 << 16) {
		s := string(binary.BigEndian.AppendUint32([]byte{0xca}, bits<<16))
		canon(t, s, isCanonical(s))
		if isCanonical(s) {
			right++
		}
	}
	// Of these patterns, with 7 bits of fraction, of each sign: below 1 but 0; those from 1 up to 128 that are no whole numbers; and outside, up to the infinite one, the negative ones a power of 2 sooner, but for the first of these; and no number.
	if below, broken, outside := 127*128-1, 7*128-127, 255*128-191*128; right != 2*(below+broken+outside)+128-1+2+1 {
		t.Errorf("%d are canonical", right)
	}
	for range 50000 {
		wide := string(binary.BigEndian.AppendUint32([]byte{0xca}, uint32(r.next())))
		canon(t, wide, isCanonical(wide))
		wide = string(binary.BigEndian.AppendUint64([]byte{0xcb}, r.next()>>r.below(64)<<r.below(64)))
		canon(t, wide, isCanonical(wide))
	}
	for range 5000 {
		v := r.float()
		if v.Bits == noNumber {
			continue
		}
		for i, s := range floats(math.Float64frombits(v.Bits)) {
			canon(t, s, i == 0)
		}
	}
}

// P24.4: what is one byte.
func TestCanonBytes(t *testing.T) {
	only(t, "c0", "c1", "c4", "c7 00")
	only(t, "c2", "c1")
	only(t, "c3", "c1")
	for b := range 256 {
		canon(t, string([]byte{byte(b)}), b <= 0x7f || b == 0x80 || b == 0x90 || b == 0xa0 || b == 0xc0 || b == 0xc2 || b == 0xc3 || b >= 0xe0)
	}
}

// P24.4: texts, bytes and extensions behind the least head, and texts that are texts.
func TestCanonStrings(t *testing.T) {
	only(t, "c4 00", "c5 00 00", "c6 00 00 00 00", "c4")
	only(t, "c4 01 ff", "c5 00 01 ff", "c6 00 00 00 01 ff", "a1 ff", "c4 01")
	only(t, "a0", "d9 00", "da 00 00", "db 00 00 00 00")
	only(t, "a1 61", "d9 01 61", "da 00 01 61", "a1", "a1 80")
	only(t, "a2 c3 a9", "a2 c3 28", "a1 c3", "a2 c0 80", "a3 c3 a9", "a2 a9 c3")
	only(t, "a4 f0 9f 98 80", "a6 ed a0 bd ed b8 80", "a3 ed a0 80", "a4 f4 90 80 80", "a3 f0 9f 98", "a4 f0 8f bf bf", "a5 f8 88 80 80 80")
	only(t, "a3 ef bb bf", "a3 e0 80 80", "a1 fe")
	only(t, "c7 00 07", "c8 00 00 07", "c9 00 00 00 00 07", "c7 00")
	only(t, "d4 ff 00", "c7 01 ff 00", "c8 00 01 ff 00", "c9 00 00 00 01 ff 00", "d4 ff", "d4")
	only(t, "d5 05 00 00", "c7 02 05 00 00", "c8 00 02 05 00 00", "d5 05 00")
	only(t, "c7 03 05 00 00 00", "c8 00 03 05 00 00 00", "c7 03 05 00 00")
	only(t, "d6 05 00 00 00 00", "c7 04 05 00 00 00 00", "d6 05 00 00 00")
	only(t, "d7 80 00 00 00 00 00 00 00 00", "c7 08 80 00 00 00 00 00 00 00 00")
	only(t, "d8 7f 00 00 00 00 00 00 00 00 00 00 00 00 00 00 00 00", "c7 10 7f 00 00 00 00 00 00 00 00 00 00 00 00 00 00 00 00", "d8 7f 00 00 00 00 00 00 00 00")
	for _, n := range []int{0, 1, 2, 3, 4, 5, 8, 15, 16, 17, 30, 31, 32, 33, 254, 255, 256, 257, 65535, 65536} {
		for _, kind := range []api.Kind{api.VText, api.VBytes, api.VExt} {
			s := strings.Repeat("a", n)
			if kind == api.VExt {
				s += "b" // the first byte is the type
			}
			for i, head := range heads(kind, n) {
				canon(t, head+s, i == 0)
				canon(t, head+s+"a", false)
				if s != "" {
					canon(t, head+s[1:], false)
				}
			}
		}
	}
}

// P24.4: lists and maps behind the least head, with as many items as they say.
func TestCanonContainers(t *testing.T) {
	only(t, "90", "dc 00 00", "dd 00 00 00 00")
	only(t, "92 01 02", "dc 00 02 01 02", "dd 00 00 00 02 01 02", "92 01", "92 01 cc 02", "91 c1")
	only(t, "80", "de 00 00", "df 00 00 00 00")
	only(t, "81 01 02", "de 00 01 01 02", "df 00 00 00 01 01 02", "81 01", "81 cc 01 02", "81 01 cc 02", "81 01 c1")
	for _, s := range []string{"", "00 00", "90 90", "80 00", "c0 c0", "c1", "dc ff ff 00", "de ff ff 00", "dd ff ff ff ff 00", "df ff ff ff ff 00", "df 80 00 00 00", "dd 80 00 00 00", "c6 ff ff ff ff 00", "db 7f ff ff ff 61", "c9 ff ff ff ff 00", "dc 00", "de 00", "dd 00 00 00", "df 00 00 00"} {
		canon(t, of(s), false)
	}
	for _, n := range []int{0, 1, 14, 15, 16, 17, 255, 256, 65535, 65536} {
		for i, head := range heads(api.VList, n) {
			canon(t, head+strings.Repeat("\xc0", n), i == 0)
			canon(t, head+strings.Repeat("\xc0", n+1), false)
			if n > 0 {
				canon(t, head+strings.Repeat("\xc0", n-1), false)
			}
		}
		var pairs strings.Builder
		for i := range n {
			pairs.WriteString(document(list(num(int64(i>>16)), raw(string([]byte{byte(i >> 8), byte(i)})))) + "\xc0")
		}
		for i, head := range heads(api.VMap, n) {
			canon(t, head+pairs.String(), i == 0)
			canon(t, head+pairs.String()+"\xc0", false)
			canon(t, head+pairs.String()+"\xff\xc0", false)
			if n > 0 {
				canon(t, head+pairs.String()[:pairs.Len()-1], false)
			}
		}
	}
}

// P24.4: keys rise by their bytes, and none comes twice.
func TestCanonKeys(t *testing.T) {
	for _, keys := range [][]string{
		{"00", "01", "7f", "80", "81 00 00", "90", "91 00", "91 ff", "92 00 00", "a0", "a1 61", "a1 62", "a2 61 61", "c0", "c2", "c3", "c4 00", "c4 01 00", "c4 02 00 00", "c7 00 00", "c7 00 ff", "c7 03 00 00 00 00", "ca 3f c0 00 00", "ca 5f 80 00 00", "ca 7f 80 00 00", "ca 7f c0 00 00", "ca bf c0 00 00", "ca ff 80 00 00", "cb 3f b9 99 99 99 99 99 9a", "cc 80", "cc ff", "cd 01 00", "ce 00 01 00 00", "cf 00 00 00 01 00 00 00 00", "d0 80", "d0 df", "d1 80 00", "d1 ff 7f", "d2 ff ff 7f ff", "d3 80 00 00 00 00 00 00 00", "d4 00 00", "d4 ff 00", "d5 00 00 00", "e0", "fe", "ff"},
		{"a2 c3 a9", "a3 ef ac 80", "a4 f0 9f 98 80"}, {"0a", "a1 7a", "c2", "ff"}, {"a1 62", "a2 61 61"}, {"fd", "fe", "ff"},
	} {
		made := func(keys []string) string {
			out := shortest(api.VMap, len(keys))
			for i, key := range keys {
				out += of(key) + string([]byte{byte(i)})
			}
			return out
		}
		canon(t, made(keys), true)
		for i := range keys {
			for j := range i {
				other := slices.Clone(keys)
				other[i], other[j] = other[j], other[i]
				canon(t, made(other), false)
				other[i] = other[j]
				canon(t, made(other), false)
			}
			canon(t, made(slices.Insert(slices.Clone(keys), i, keys[i])), false)
			canon(t, made(slices.Delete(slices.Clone(keys), i, i+1)), true)
		}
	}
	// In maps that stand in others, as keys and as values too.
	only(t, "82 81 a1 61 00 00 81 a1 62 00 00", "82 81 a1 62 00 00 81 a1 61 00 00", "81 82 a1 62 00 a1 61 00 00", "81 00 82 a1 62 00 a1 61 00", "82 01 02 ca 3f 80 00 00 03", "82 01 02 cc 01 03", "82 ff 00 fe 00")
}

// P24.4: all short strings of some bytes.
func TestCanonShort(t *testing.T) {
	bytes := of("00 01 41 7f 81 82 91 92 a1 c0 c1 c4 c7 cc cd d0 d1 d4 d9 dc e0 ff")
	right := 0
	var all func(s string, more int)
	all = func(s string, more int) {
		got := packwrite.Canon(s)
		if got != isCanonical(s) {
			t.Errorf("Canon(%s) = %v", hexed(s), got)
		}
		if got {
			right++
		}
		if more > 0 {
			for i := range len(bytes) {
				all(s+bytes[i:i+1], more-1)
			}
		}
	}
	all("", 4)
	if right < 1000 {
		t.Errorf("%d canonical", right)
	}
	// And of any bytes the shorter ones.
	for a := range 65536 {
		s := string([]byte{byte(a >> 8), byte(a)})
		canon(t, s, isCanonical(s))
	}
}

// P24.4: canonical documents, and such that were changed in some bytes or are written in another way.
func TestCanonAny(t *testing.T) {
	r := rule{2411}
	for range 10000 {
		s := r.anyString(3)
		canon(t, s, isCanonical(s))
		v := r.value(3, false)
		canon(t, document(v), true)
		s = r.loosely(v)
		canon(t, s, isCanonical(s))
		if read, err := packread.Read(s); err != nil || !same(read, v) {
			t.Fatalf("%s is %s, %v, want %s", hexed(s), show(read), err, show(v))
		}
	}
	for range 30000 {
		s := make([]byte, r.below(12))
		for i := range s {
			s[i] = r.wild()
		}
		canon(t, string(s), isCanonical(string(s)))
	}
}

// P24.4: each byte of a canonical document changed in every way.
func TestCanonChanged(t *testing.T) {
	s := document(object(no, ext(5, "ab"), num(-500), list(float(half3), whole("18446744073709551616"), text("é"), num(200)), text("a"), list(raw("\x00"), ext(-1, "abc")), list(), float(0x3fb999999999999a)))
	canon(t, s, true)
	for at := range len(s) {
		canon(t, s[:at], false)
		for b := range 256 {
			other := s[:at] + string([]byte{byte(b)}) + s[at+1:]
			canon(t, other, isCanonical(other))
			other = s[:at] + string([]byte{byte(b)}) + s[at:]
			canon(t, other, isCanonical(other))
		}
	}
}
