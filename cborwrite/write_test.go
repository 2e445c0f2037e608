package cborwrite_test

import (
	"math/big"
	"slices"
	"strings"
	"testing"

	"crucible/api"
	"crucible/cborwrite"
	"crucible/head"
	"crucible/number"
	"crucible/quot"
)

// everywhere asks for a document by itself, in lists, in tags, as a key and behind one.
func everywhere(t *testing.T, v api.Value, want string) {
	t.Helper()
	writes(t, v, want)
	writes(t, list(v), "\x81"+want)
	writes(t, list(v, num(0), v), "\x83"+want+"\x00"+want)
	writes(t, object(v, v), "\xa1"+want+want)
	writes(t, tag(1, v), "\xc1"+want)
	writes(t, list(object(num(-1), list(v))), "\x81\xa1\x20\x81"+want)
}

// P21.2: every kind by itself.
func TestKinds(t *testing.T) {
	everywhere(t, null, "\xf6")
	everywhere(t, no, "\xf4")
	everywhere(t, yes, "\xf5")
	everywhere(t, num(7), "\x07")
	everywhere(t, float(0xbfe0000000000000), "\xf9\xb8\x00")
	everywhere(t, text("x"), "\x61x")
	everywhere(t, raw("x"), "\x41x")
	everywhere(t, list(null), "\x81\xf6")
	everywhere(t, object(null, no), "\xa1\xf6\xf4")
	everywhere(t, tag(0, null), "\xc0\xf6")
	// Empty lists and nil mean the same.
	everywhere(t, api.Value{Kind: api.VList, Kids: []api.Value{}}, "\x80")
	everywhere(t, api.Value{Kind: api.VMap, Kids: []api.Value{}}, "\xa0")
	everywhere(t, api.Value{Kind: api.VNull, Kids: []api.Value{}, Int: api.Int{Mag: api.Nat{}}}, "\xf6")
	everywhere(t, api.Value{Kind: api.VInt, Int: api.Int{Mag: api.Nat{}}}, "\x00")
	for n := range uint64(256) {
		switch {
		case n < 20 || n == 23:
			everywhere(t, simple(n), string([]byte{0xe0 + byte(n)}))
		case n >= 32:
			everywhere(t, simple(n), string([]byte{0xf8, byte(n)}))
		default:
			fails(t, simple(n), arg, "")
		}
	}
}

// P21.2: whole numbers about every power of 2, and the edges of the widths by their bytes.
func TestWhole(t *testing.T) {
	for _, c := range []struct{ digits, want string }{
		{"0", "00"}, {"1", "01"}, {"23", "17"}, {"24", "18 18"}, {"255", "18 ff"}, {"256", "19 01 00"}, {"65535", "19 ff ff"}, {"65536", "1a 00 01 00 00"}, {"4294967295", "1a ff ff ff ff"}, {"4294967296", "1b 00 00 00 01 00 00 00 00"}, {"9223372036854775808", "1b 80 00 00 00 00 00 00 00"}, {"18446744073709551615", "1b ff ff ff ff ff ff ff ff"},
		{"-1", "20"}, {"-24", "37"}, {"-25", "38 18"}, {"-256", "38 ff"}, {"-257", "39 01 00"}, {"-65536", "39 ff ff"}, {"-65537", "3a 00 01 00 00"}, {"-4294967296", "3a ff ff ff ff"}, {"-4294967297", "3b 00 00 00 01 00 00 00 00"}, {"-9223372036854775808", "3b 7f ff ff ff ff ff ff ff"}, {"-9223372036854775809", "3b 80 00 00 00 00 00 00 00"}, {"-18446744073709551615", "3b ff ff ff ff ff ff ff fe"}, {"-18446744073709551616", "3b ff ff ff ff ff ff ff ff"},
		{"18446744073709551616", "c2 49 01 00 00 00 00 00 00 00 00"}, {"18446744073709551617", "c2 49 01 00 00 00 00 00 00 00 01"}, {"-18446744073709551617", "c3 49 01 00 00 00 00 00 00 00 00"}, {"-18446744073709551618", "c3 49 01 00 00 00 00 00 00 00 01"}, {"-4722366482869645213696", "c3 49 ff ff ff ff ff ff ff ff ff"}, {"4722366482869645213696", "c2 4a 01 00 00 00 00 00 00 00 00 00"},
	} {
		everywhere(t, whole(c.digits), of(c.want))
	}
	one := big.NewInt(1)
	for n := range uint(2100) {
		for more := int64(-3); more <= 3; more++ {
			x := new(big.Int).Lsh(one, n)
			sameAsReference(t, wholeOf(x.Add(x, big.NewInt(more))))
			sameAsReference(t, wholeOf(x.Neg(x)))
		}
	}
	r := rule{2102}
	for range 10000 {
		v := r.integer()
		s := document(v)
		answers(t, v, s, told{})
		// In the words of the layers below.
		n, major := bigOf(v), uint8(0)
		if n.Sign() < 0 {
			n, major = n.Not(n), 1
		}
		want, _ := head.Write(major, n.Uint64())
		if bytes := quot.Bytes(wholeOf(n).Int.Mag); !n.IsUint64() {
			length, _ := head.Write(2, uint64(len(bytes)))
			want = string([]byte{0xc2 + major}) + length + bytes
		}
		if s != want {
			t.Errorf("of %s the reference has %s, the layers %s", show(v), hexed(s), hexed(want))
		}
	}
}

// P21.2: great numbers at the edges of their lengths.
func TestGreat(t *testing.T) {
	for _, n := range []int{9, 10, 23, 24, 25, 255, 256, 257, 65535, 65536, 65537, 1048570} {
		for _, bytes := range []string{"\x01" + strings.Repeat("\x00", n-1), strings.Repeat("\xff", n), "\x80" + strings.Repeat("\x01", n-1)} {
			x := new(big.Int).SetBytes([]byte(bytes))
			answers(t, wholeOf(x), "\xc2"+counted(2, bytes), told{})
			answers(t, wholeOf(x.Not(x)), "\xc3"+counted(2, bytes), told{})
		}
	}
	// What -1 less a number is has now and then a limb fewer.
	for n := 3; n < 8; n++ {
		x := new(big.Int).Lsh(big.NewInt(-1), uint(32*n))
		everywhere(t, wholeOf(x), "\xc3"+counted(2, strings.Repeat("\xff", 4*n)))
		everywhere(t, wholeOf(x.Add(x, big.NewInt(-1))), "\xc3"+counted(2, "\x01"+strings.Repeat("\x00", 4*n)))
	}
}

// P21.2: all floats of 16 bits, those of every exponent of 32 and 64, and others.
func TestFloats(t *testing.T) {
	for _, c := range []struct {
		bits uint64
		want string
	}{
		{plus, "f9 7c 00"}, {minus, "f9 fc 00"}, {noNumber, "f9 7e 00"}, {half3, "f9 3e 00"}, {half3 | 1<<63, "f9 be 00"}, {0x3e70000000000000, "f9 00 01"}, {0x3e60000000000000, "fa 33 00 00 00"}, {0x3f0ff80000000000, "f9 03 ff"}, {0x3f10000000000000, "f9 04 00"}, {0x3ff0040000000000, "f9 3c 01"}, {0x3ff0020000000000, "fa 3f 80 10 00"},
		{0x3ff0000020000000, "fa 3f 80 00 01"}, {0x3ff0000010000000, "fb 3f f0 00 00 10 00 00 00"}, {0x36a0000000000000, "fa 00 00 00 01"}, {0x3690000000000000, "fb 36 90 00 00 00 00 00 00"}, {0x380fffffc0000000, "fa 00 7f ff ff"}, {0x3810000000000000, "fa 00 80 00 00"}, {0x3fb999999999999a, "fb 3f b9 99 99 99 99 99 9a"}, {0x3fb99999a0000000, "fa 3d cc cc cd"},
		{1, "fb 00 00 00 00 00 00 00 01"}, {1<<63 | 1, "fb 80 00 00 00 00 00 00 01"}, {0x000fffffffffffff, "fb 00 0f ff ff ff ff ff ff"}, {0x432fffffffffffff, "fb 43 2f ff ff ff ff ff ff"}, {0x415fffffe0000000, "fa 4a ff ff ff"},
	} {
		everywhere(t, float(c.bits), of(c.want))
	}
	for x := range 1 << 16 {
		sameAsReference(t, number.Of(uint16(x)))
	}
	r := rule{2103}
	for e := range uint64(256) {
		for _, fraction := range []uint64{0, 1, 1 << 12, 1 << 13, 1 << 22, 1<<23 - 1, r.next() >> 41} {
			sameAsReference(t, number.Of(uint32(e<<23|fraction)))
			sameAsReference(t, number.Of(uint32(1<<31|e<<23|fraction)))
		}
	}
	for e := range uint64(2048) {
		for _, fraction := range []uint64{0, 1, 1 << 28, 1 << 29, 1 << 41, 1 << 42, 1 << 51, 1<<52 - 1, r.next() >> 12, r.next() >> 12 &^ (1<<29 - 1)} {
			sameAsReference(t, number.Of(e<<52|fraction))
			sameAsReference(t, number.Of(1<<63|e<<52|fraction))
		}
	}
	for range 5000 {
		v := r.float()
		width, bits, _ := number.Narrow(v)
		want, _ := head.Float(width, bits)
		everywhere(t, v, want)
	}
}

// P21.2: texts and bytes at the edges of their lengths, and with any bytes.
func TestStrings(t *testing.T) {
	for _, n := range []int{0, 1, 22, 23, 24, 25, 254, 255, 256, 257, 65534, 65535, 65536, 65537, 1000000} {
		s := strings.Repeat("a", n)
		for _, c := range []struct {
			v     api.Value
			major byte
		}{{text(s), 3}, {raw(s), 2}} {
			want, ok := head.Write(c.major, uint64(n))
			if !ok || want != shortest(c.major, uint64(n)) {
				t.Fatalf("of %d: %s", n, hexed(want))
			}
			writes(t, c.v, want+s)
		}
	}
	for _, s := range []string{"", "\x00", "\n", "\"", "\\", "/", "é", "ﬀ", "😀", "e\u0301", "\ufeff", "\U0010ffff", "\xff", "\xc3", "\xed\xa0\x80"} {
		everywhere(t, raw(s), string([]byte{0x40 + byte(len(s))})+s)
		if s < "\xf5" && s != "\xc3" && s != "\xed\xa0\x80" {
			everywhere(t, text(s), string([]byte{0x60 + byte(len(s))})+s)
		}
	}
	// The length is that in bytes.
	everywhere(t, text(strings.Repeat("é", 12)), "\x78\x18"+strings.Repeat("é", 12))
}

// P21.2: lists, maps and tags, empty ones, in one another, and at the edges of their lengths.
func TestContainers(t *testing.T) {
	for _, c := range []struct {
		v    api.Value
		want string
	}{
		{list(list()), "81 80"}, {list(object()), "81 a0"}, {object(list(), object()), "a1 80 a0"}, {list(num(3), num(2), num(2), num(1)), "84 03 02 02 01"}, {tag(1, tag(4, list())), "c1 c4 80"}, {object(tag(1, num(1)), tag(1, num(1))), "a1 c1 01 c1 01"}, {list(object(text("b"), num(1)), object(text("a"), num(2))), "82 a1 61 62 01 a1 61 61 02"},
	} {
		everywhere(t, c.v, of(c.want))
	}
	for _, n := range []uint64{0, 1, 4, 5, 21, 22, 23, 24, 25, 55, 255, 256, 257, 65535, 65536, 55799, 1<<32 - 1, 1 << 32, 1 << 63, 1<<64 - 1} {
		everywhere(t, tag(n, text("a")), shortest(6, n)+"\x61a")
	}
	for _, n := range []int{0, 1, 23, 24, 25, 255, 256, 257, 65535, 65536, 65537} {
		writes(t, list(slices.Repeat([]api.Value{null}, n)...), shortest(4, uint64(n))+strings.Repeat("\xf6", n))
		keys, want := object(), []byte(shortest(5, uint64(n)))
		for i := range n {
			keys.Kids = append(keys.Kids, num(int64(i)), no)
			want = append(want, shortest(0, uint64(i))+"\xf4"...)
		}
		writes(t, keys, string(want))
	}
	r := rule{2104}
	for range 20000 {
		sameAsReference(t, r.value(4, false))
	}
}

// P21.2: keys whose order by documents is another one than that of values.
func TestKeys(t *testing.T) {
	// Each as they rise by documents.
	for _, keys := range [][]api.Value{
		{num(0), num(1), num(23), num(24), num(255), num(256), whole("18446744073709551615"), num(-1), num(-2), num(-24), num(-25), num(-1000), raw(""), raw("\x00"), raw("\xff"), raw("\x00\x00"), text(""), text("a"), text("b"), text("z"), text("aa"), text("ab"), list(), list(num(0)), list(num(-1)), list(num(0), num(0)), object(), object(num(0), num(0)), tag(0, num(0)), tag(1, num(0)), whole("18446744073709551616"), whole("-18446744073709551617"), tag(4, num(0)), tag(24, null), simple(0), simple(19), no, yes, null, simple(23), simple(32), simple(255), float(half3), float(plus), float(noNumber), float(half3 | 1<<63), float(minus), float(0x3ff0000020000000), float(0x3fb999999999999a)},
		{text("é"), text("ﬀ"), text("😀")}, {text("b"), text("aa")}, {num(10), num(100), num(-1), text("z"), list(num(100)), no}, {num(-1), num(-2), num(-3), num(-4)}, {list(num(9)), list(num(1), num(1))}, {list(text("b")), list(text("aa"))}, {object(text("b"), num(0)), object(text("aa"), num(0))}, {tag(5, text("b")), tag(5, text("aa"))}, {raw("b"), text("a")},
		{text(strings.Repeat("b", 22)), text(strings.Repeat("b", 23)), text(strings.Repeat("a", 24)), text(strings.Repeat("a", 255)), text(strings.Repeat("A", 256))},
	} {
		kids, want := []api.Value{}, shortest(5, uint64(len(keys)))
		for i, key := range keys {
			kids = append(kids, key, num(int64(i)))
			want += document(key) + document(num(int64(i)))
		}
		v := mapOf(kids)
		if len(v.Kids) != len(kids) {
			t.Fatalf("%d keys of %d", len(v.Kids)/2, len(keys))
		}
		writes(t, v, want)
		writes(t, list(v, object(v, v)), "\x82"+want+"\xa1"+want+want)
	}
	r := rule{2105}
	turned := 0
	for range 5000 {
		v := r.object(3, false)
		sameAsReference(t, v)
		s, _ := cborwrite.Write(v)
		if s != shortest(5, uint64(len(v.Kids)/2))+strings.Join(documents(v.Kids), "") {
			turned++
		}
	}
	if turned < 1000 {
		t.Errorf("only %d of these differ from the order of values", turned)
	}
}

// P21.2: many keys of every sort at once.
func TestManyKeys(t *testing.T) {
	r := rule{2106}
	for range 20 {
		sameAsReference(t, mapOf(r.values(2000, 2, false)))
	}
	var falling []api.Value
	for i := range 60000 {
		falling = append(falling, num(int64(-i-1)), null)
	}
	sameAsReference(t, mapOf(falling))
}
