package packwrite_test

import (
	"math/big"
	"slices"
	"strings"
	"testing"

	"crucible/api"
	"crucible/ieee"
	"crucible/number"
	"crucible/packwrite"
	wholes "crucible/whole"
)

// everywhere asks for a document by itself, in lists, as a key and behind one.
func everywhere(t *testing.T, v api.Value, want string) {
	t.Helper()
	writes(t, v, want)
	writes(t, list(v), "\x91"+want)
	writes(t, list(v, num(0), v), "\x93"+want+"\x00"+want)
	writes(t, object(v, v), "\x81"+want+want)
	writes(t, list(object(num(-1), list(v))), "\x91\x81\xff\x91"+want)
}

// P24.2: every kind by itself.
func TestKinds(t *testing.T) {
	everywhere(t, null, "\xc0")
	everywhere(t, no, "\xc2")
	everywhere(t, yes, "\xc3")
	everywhere(t, num(7), "\x07")
	everywhere(t, float(0xbfe0000000000000), "\xca\xbf\x00\x00\x00")
	everywhere(t, text("x"), "\xa1x")
	everywhere(t, raw("x"), "\xc4\x01x")
	everywhere(t, ext(3, "x"), "\xd4\x03x")
	everywhere(t, list(null), "\x91\xc0")
	everywhere(t, object(null, no), "\x81\xc0\xc2")
	// Empty lists and nil mean the same.
	everywhere(t, api.Value{Kind: api.VList, Kids: []api.Value{}}, "\x90")
	everywhere(t, api.Value{Kind: api.VMap, Kids: []api.Value{}}, "\x80")
	everywhere(t, api.Value{Kind: api.VNull, Kids: []api.Value{}, Int: api.Int{Mag: api.Nat{}}}, "\xc0")
	everywhere(t, api.Value{Kind: api.VInt, Int: api.Int{Mag: api.Nat{}}}, "\x00")
}

// P24.2: whole numbers about every power of 2, and the edges of the families by their bytes.
func TestWhole(t *testing.T) {
	for _, c := range []struct{ digits, want string }{
		{"0", "00"}, {"1", "01"}, {"126", "7e"}, {"127", "7f"}, {"128", "cc 80"}, {"255", "cc ff"}, {"256", "cd 01 00"}, {"32767", "cd 7f ff"}, {"32768", "cd 80 00"}, {"65535", "cd ff ff"}, {"65536", "ce 00 01 00 00"}, {"2147483648", "ce 80 00 00 00"}, {"4294967295", "ce ff ff ff ff"}, {"4294967296", "cf 00 00 00 01 00 00 00 00"}, {"9223372036854775807", "cf 7f ff ff ff ff ff ff ff"}, {"9223372036854775808", "cf 80 00 00 00 00 00 00 00"}, {"18446744073709551615", "cf ff ff ff ff ff ff ff ff"},
		{"-1", "ff"}, {"-31", "e1"}, {"-32", "e0"}, {"-33", "d0 df"}, {"-127", "d0 81"}, {"-128", "d0 80"}, {"-129", "d1 ff 7f"}, {"-255", "d1 ff 01"}, {"-256", "d1 ff 00"}, {"-32768", "d1 80 00"}, {"-32769", "d2 ff ff 7f ff"}, {"-65536", "d2 ff ff 00 00"}, {"-2147483648", "d2 80 00 00 00"}, {"-2147483649", "d3 ff ff ff ff 7f ff ff ff"}, {"-4294967296", "d3 ff ff ff ff 00 00 00 00"}, {"-9223372036854775807", "d3 80 00 00 00 00 00 00 01"}, {"-9223372036854775808", "d3 80 00 00 00 00 00 00 00"},
		{"18446744073709551616", "ca 5f 80 00 00"}, {"18446744073709555712", "cb 43 f0 00 00 00 00 00 01"}, {"18446746272732807168", "ca 5f 80 00 01"}, {"-9223372036854777856", "cb c3 e0 00 00 00 00 00 01"}, {"-9223373136366403584", "ca df 00 00 01"}, {"-18446744073709551616", "ca df 80 00 00"}, {"340282346638528859811704183484516925440", "ca 7f 7f ff ff"}, {"340282366920938463463374607431768211456", "cb 47 f0 00 00 00 00 00 00"}, {"-340282346638528859811704183484516925440", "ca ff 7f ff ff"},
	} {
		everywhere(t, whole(c.digits), of(c.want))
	}
	// What a float has too stays a whole number.
	for n := range uint(64) {
		for _, sign := range []int64{1, -1} {
			v := wholeOf(new(big.Int).Lsh(big.NewInt(sign), n))
			if s, err := packwrite.Write(v); err != nil || s[0] == 0xca || s[0] == 0xcb {
				t.Errorf("Write(%s) = %s, %v", show(v), hexed(s), err)
			}
		}
	}
	one := big.NewInt(1)
	for n := range uint(1100) {
		for more := int64(-3); more <= 3; more++ {
			x := new(big.Int).Lsh(one, n)
			sameAsReference(t, wholeOf(x.Add(x, big.NewInt(more))))
			sameAsReference(t, wholeOf(x.Neg(x)))
		}
		// Of as many bits as a float has, of one more, and of what one of 32 bits has.
		for _, odd := range []int64{1<<53 - 1, 1<<53 + 1, 1<<54 - 1, 1<<24 - 1, 1<<24 + 1} {
			x := new(big.Int).Lsh(big.NewInt(odd), n)
			sameAsReference(t, wholeOf(x))
			sameAsReference(t, wholeOf(x.Neg(x)))
		}
	}
	r := rule{2402}
	for range 10000 {
		v := r.integer()
		s := document(v)
		answers(t, v, s, told{})
		if want := inLayers(v); s != want {
			t.Errorf("of %s the reference has %s, the layers %s", show(v), hexed(s), hexed(want))
		}
	}
}

// inLayers is the document of a whole number in the words of the layers below.
func inLayers(v api.Value) string {
	if n, ok := wholes.Int64(v.Int); ok && n >= -32 && n <= 127 {
		s, _ := wholes.Twos(v.Int, 1)
		return s
	}
	first := byte(0xcc)
	if v.Int.Neg {
		first = 0xd0
	}
	for i := range 4 {
		// A number without a sign has a bit more.
		s, ok := wholes.Twos(v.Int, 1<<i+1)
		same, _ := wholes.Twos(v.Int, 1<<i)
		if ok && (same != "" || s[0] == 0) {
			return string([]byte{first + byte(i)}) + s[1:]
		}
	}
	bits, _ := number.Bits(v)
	return floatInLayers(bits)
}

func floatInLayers(bits uint64) string {
	if narrow, ok := ieee.To[uint32](bits); ok {
		return inBytes(0xca, 4, uint64(narrow))
	}
	return inBytes(0xcb, 8, bits)
}

// P24.2: floats of 16 bits, those of every exponent of 32 and 64, and others.
func TestFloats(t *testing.T) {
	for _, c := range []struct {
		bits uint64
		want string
	}{
		{plus, "ca 7f 80 00 00"}, {minus, "ca ff 80 00 00"}, {noNumber, "ca 7f c0 00 00"}, {half3, "ca 3f c0 00 00"}, {half3 | 1<<63, "ca bf c0 00 00"}, {0x3e70000000000000, "ca 33 80 00 00"}, {0x3ff0040000000000, "ca 3f 80 20 00"}, {0x3ff0000020000000, "ca 3f 80 00 01"}, {0x3ff0000010000000, "cb 3f f0 00 00 10 00 00 00"},
		{0x36a0000000000000, "ca 00 00 00 01"}, {0x3690000000000000, "cb 36 90 00 00 00 00 00 00"}, {0x380fffffc0000000, "ca 00 7f ff ff"}, {0x380fffffe0000000, "cb 38 0f ff ff e0 00 00 00"}, {0x3810000000000000, "ca 00 80 00 00"}, {0x3fb999999999999a, "cb 3f b9 99 99 99 99 99 9a"}, {0x3fb99999a0000000, "ca 3d cc cc cd"},
		{1, "cb 00 00 00 00 00 00 00 01"}, {1<<63 | 1, "cb 80 00 00 00 00 00 00 01"}, {0x000fffffffffffff, "cb 00 0f ff ff ff ff ff ff"}, {0x432fffffffffffff, "cb 43 2f ff ff ff ff ff ff"}, {0x415fffffe0000000, "ca 4a ff ff ff"}, {0x415fffffe0000001, "cb 41 5f ff ff e0 00 00 01"},
	} {
		everywhere(t, float(c.bits), of(c.want))
	}
	for x := range 1 << 16 {
		sameAsReference(t, number.Of(uint16(x)))
	}
	r := rule{2403}
	for e := range uint64(256) {
		for _, fraction := range []uint64{0, 1, 1 << 12, 1 << 13, 1 << 22, 1<<23 - 1, r.next() >> 41} {
			sameAsReference(t, number.Of(uint32(e<<23|fraction)))
			sameAsReference(t, number.Of(uint32(1<<31|e<<23|fraction)))
		}
	}
	for e := range uint64(2048) {
		for _, fraction := range []uint64{0, 1, 1 << 28, 1 << 29, 1 << 41, 1 << 42, 1 << 51, 1<<52 - 1, r.next() >> 12, r.next() >> 12 &^ (1<<29 - 1)} {
			sameAsReference(t, number.Of(e<<52|fraction))
			sameAsReference(t, number.Of(1<<63|e<<52|fraction))
		}
	}
	for range 5000 {
		v := r.float()
		everywhere(t, v, floatInLayers(v.Bits))
	}
}

// P24.2: texts, bytes and extensions at the edges of their lengths, and with any bytes.
func TestStrings(t *testing.T) {
	for _, n := range []int{0, 1, 2, 3, 4, 5, 7, 8, 9, 15, 16, 17, 30, 31, 32, 33, 64, 127, 128, 254, 255, 256, 257, 512, 65534, 65535, 65536, 65537, 131072, 1000000} {
		s := strings.Repeat("a", n)
		for _, v := range []api.Value{text(s), raw(s), ext(-2, s)} {
			want := heads(v.Kind, n)[0]
			if v.Kind == api.VExt {
				want += "\xfe"
			}
			writes(t, v, want+s)
		}
	}
	for n, want := range map[int]string{0: "c7 00", 1: "d4", 2: "d5", 3: "c7 03", 4: "d6", 5: "c7 05", 8: "d7", 16: "d8", 17: "c7 11", 32: "c7 20", 255: "c7 ff", 256: "c8 01 00", 65535: "c8 ff ff", 65536: "c9 00 01 00 00"} {
		bytes := strings.Repeat("\x00", n)
		for sort := range 256 {
			answers(t, ext(int8(sort), bytes), of(want)+string([]byte{byte(sort)})+bytes, told{})
		}
	}
	for _, s := range []string{"", "\x00", "\n", "\"", "\\", "/", "é", "ﬀ", "😀", "e\u0301", "\ufeff", "\U0010ffff", "\xff", "\xc3", "\xed\xa0\x80"} {
		everywhere(t, raw(s), "\xc4"+string([]byte{byte(len(s))})+s)
		if s < "\xf5" && s != "\xc3" && s != "\xed\xa0\x80" {
			everywhere(t, text(s), string([]byte{0xa0 + byte(len(s))})+s)
		}
	}
	// The length is that in bytes.
	everywhere(t, text(strings.Repeat("é", 15)+"a"), "\xbf"+strings.Repeat("é", 15)+"a")
	everywhere(t, text(strings.Repeat("é", 16)), "\xd9\x20"+strings.Repeat("é", 16))
}

// P24.2: lists and maps, empty ones, in one another, and at the edges of their lengths.
func TestContainers(t *testing.T) {
	for _, c := range []struct {
		v    api.Value
		want string
	}{
		{list(list()), "91 90"}, {list(object()), "91 80"}, {object(list(), object()), "81 90 80"}, {list(num(3), num(2), num(2), num(1)), "94 03 02 02 01"}, {list(object(text("b"), num(1)), object(text("a"), num(2))), "92 81 a1 62 01 81 a1 61 02"}, {object(list(num(1)), list(num(2))), "81 91 01 91 02"},
	} {
		everywhere(t, c.v, of(c.want))
	}
	for _, n := range []int{0, 1, 14, 15, 16, 17, 31, 32, 255, 256, 257, 65534, 65535, 65536, 65537} {
		writes(t, list(slices.Repeat([]api.Value{null}, n)...), heads(api.VList, n)[0]+strings.Repeat("\xc0", n))
		keys, want := object(), []byte(heads(api.VMap, n)[0])
		for i := range n {
			keys.Kids = append(keys.Kids, num(int64(i)), no)
			want = append(want, integer(big.NewInt(int64(i)))+"\xc2"...)
		}
		writes(t, keys, string(want))
	}
	r := rule{2404}
	for range 20000 {
		sameAsReference(t, r.value(4, false))
	}
}

// P24.2: keys whose order by documents is another one than that of values.
func TestKeys(t *testing.T) {
	for _, keys := range [][]api.Value{
		{num(0), num(1), num(127), object(), object(num(0), num(0)), list(), list(num(0)), list(num(-1)), list(num(0), num(0)), text(""), text("a"), text("b"), text("z"), text("aa"), text("ab"), null, no, yes, raw(""), raw("\x00"), raw("\xff"), raw("\x00\x00"), ext(-1, ""), ext(0, "abc"), float(half3), whole("18446744073709551616"), float(plus), float(noNumber), float(half3 | 1<<63), whole("-18446744073709551616"), float(minus), float(0x3fb999999999999a), num(128), num(255), num(256), num(65536), whole("18446744073709551615"), num(-128), num(-33), num(-129), num(-32769), num(-2147483649), ext(0, "\x00"), ext(0, "\x01"), ext(-1, "\x00"), ext(1, "\x00\x00"), ext(0, "\x00\x00\x00\x00"), text(strings.Repeat("A", 32)), text(strings.Repeat("A", 256)), num(-32), num(-2), num(-1)},
		{text("é"), text("ﬀ"), text("😀")}, {text("b"), text("aa")}, {num(10), text("z"), no, num(-1)}, {num(-4), num(-3), num(-2), num(-1)}, {num(-128), num(-127), num(-33), num(-32), num(-1)}, {list(num(9)), list(num(1), num(1))}, {list(text("b")), list(text("aa"))}, {object(text("b"), num(0)), object(text("aa"), num(0))}, {text("a"), raw("b")}, {ext(5, ""), ext(5, "ab"), ext(4, "abcdefgh")},
		{text(strings.Repeat("b", 30)), text(strings.Repeat("b", 31)), text(strings.Repeat("a", 32)), text(strings.Repeat("a", 255)), text(strings.Repeat("A", 256))},
	} {
		if !slices.IsSorted(documents(keys)) {
			t.Fatalf("%s do not rise", show(list(keys...)))
		}
		kids, want := []api.Value{}, shortest(api.VMap, len(keys))
		for i, key := range keys {
			kids = append(kids, key, num(int64(i)))
			want += document(key) + document(num(int64(i)))
		}
		v := mapOf(kids)
		if len(v.Kids) != len(kids) {
			t.Fatalf("%d keys of %d", len(v.Kids)/2, len(keys))
		}
		writes(t, v, want)
		writes(t, list(v, object(v, v)), "\x92"+want+"\x81"+want+want)
	}
	r := rule{2405}
	turned := 0
	for range 5000 {
		v := r.object(3, false)
		sameAsReference(t, v)
		s, _ := packwrite.Write(v)
		if s != shortest(api.VMap, len(v.Kids)/2)+strings.Join(documents(v.Kids), "") {
			turned++
		}
	}
	if turned < 1000 {
		t.Errorf("only %d of these differ from the order of values", turned)
	}
}

// P24.2: many keys of every sort at once.
func TestManyKeys(t *testing.T) {
	r := rule{2406}
	for range 20 {
		sameAsReference(t, mapOf(r.values(2000, 2, false)))
	}
	var falling []api.Value
	for i := range 60000 {
		falling = append(falling, num(int64(-i-1)), null)
	}
	sameAsReference(t, mapOf(falling))
}
