package cborwrite_test

import (
	"strings"
	"testing"

	"crucible/api"
)

// P21.2: the chapter's examples of what is written, row by row.
func TestKnown(t *testing.T) {
	for _, c := range []struct {
		v    api.Value
		want string
	}{
		{null, "f6"}, {yes, "f5"}, {simple(23), "f7"}, {simple(0), "e0"}, {simple(32), "f8 20"}, {simple(255), "f8 ff"},
		{num(0), "00"}, {num(23), "17"}, {num(24), "18 18"}, {num(256), "19 01 00"}, {num(65536), "1a 00 01 00 00"}, {num(4294967296), "1b 00 00 00 01 00 00 00 00"}, {whole("18446744073709551615"), "1b ff ff ff ff ff ff ff ff"},
		{num(-1), "20"}, {num(-24), "37"}, {num(-25), "38 18"}, {whole("-18446744073709551616"), "3b ff ff ff ff ff ff ff ff"},
		{whole("18446744073709551616"), "c2 49 01 00 00 00 00 00 00 00 00"}, {whole("-18446744073709551617"), "c3 49 01 00 00 00 00 00 00 00 00"},
		{float(half3), "f9 3e 00"}, {float(0x3fb999999999999a), "fb 3f b9 99 99 99 99 99 9a"}, {float(noNumber), "f9 7e 00"}, {float(minus), "f9 fc 00"}, {float(0x3ff0000020000000), "fa 3f 80 00 01"},
		{text("é"), "62 c3 a9"}, {text(""), "60"}, {raw("\x01\x02"), "42 01 02"}, {list(), "80"}, {list(num(1), list(num(2), num(3))), "82 01 82 02 03"},
		{object(text("a"), num(2), text("b"), num(1)), "a2 61 61 02 61 62 01"},
		{object(no, num(6), num(-1), num(3), num(10), num(1), num(100), num(2), text("z"), num(4), list(num(100)), num(5)), "a6 0a 01 18 64 02 20 03 61 7a 04 81 18 64 05 f4 06"},
		{object(text("aa"), num(1), text("b"), num(2)), "a2 61 62 02 62 61 61 01"}, {tag(1, float(half3)), "c1 f9 3e 00"}, {tag(32, text("a")), "d8 20 61 61"},
	} {
		writes(t, c.v, of(c.want))
	}
	long := strings.Repeat("a", 1048571)
	writes(t, raw(long), "\x5a\x00\x0f\xff\xfb"+long)
}

// P21.1: the chapter's examples of what is refused.
func TestKnownRefused(t *testing.T) {
	fails(t, ext(1, ""), rep, "")
	fails(t, list(num(1), object(text("a"), ext(0, "\x00"))), rep, "/1/1")
	fails(t, none, arg, "")
	fails(t, raw(strings.Repeat("a", 1048572)), limit, "")
}

// P21.4: the chapter's examples.
func TestKnownCanon(t *testing.T) {
	for _, s := range []string{"18 18", "f9 3e 00", "c2 49 01 00 00 00 00 00 00 00 00", "a2 61 61 02 61 62 01", "f8 20", "e0", "f4", "41 ff"} {
		canon(t, of(s), true)
	}
	for _, s := range []string{
		"18 17", "fa 3f c0 00 00", "f9 3c 00", "f9 7e 01", "f9 80 00", "c2 48 ff ff ff ff ff ff ff ff", "c2 4a 00 01 00 00 00 00 00 00 00 00", "c2 41 05", "c2 01",
		"a2 61 62 01 61 61 02", "a2 01 02 01 03", "bf ff", "9f ff", "5f 41 01 ff", "f8 18", "f8 14", "61 ff", "", "00 00",
	} {
		canon(t, of(s), false)
	}
}

// DOC.md's examples of the whole, as far as they tell what is written as CBOR.
func TestKnownOfTheWhole(t *testing.T) {
	one, two := num(1), num(2)
	for _, c := range []struct {
		v    api.Value
		want string
	}{
		{object(text("a"), list(num(100), num(0), one), text("b"), one), "a2 61 61 83 18 64 00 01 61 62 01"}, {float(half3), "f9 3e 00"}, {one, "01"}, {float(0x3fb999999999999a), "fb 3f b9 99 99 99 99 99 9a"}, {float(noNumber), "f9 7e 00"}, {float(plus), "f9 7c 00"},
		{whole("18446744073709551616"), "c2 49 01 00 00 00 00 00 00 00 00"}, {whole("18446744073709551617"), "c2 49 01 00 00 00 00 00 00 00 01"}, {num(5), "05"}, {text("é😀/\n"), "68 c3 a9 f0 9f 98 80 2f 0a"},
		{object(text("é"), one, text("ﬀ"), one, text("😀"), two), "a3 62 c3 a9 01 63 ef ac 80 01 64 f0 9f 98 80 02"}, {list(yes), "81 f5"}, {tag(1, num(1363896240)), "c1 1a 51 4b 67 b0"}, {raw("\x01\x02"), "42 01 02"},
	} {
		writes(t, c.v, of(c.want))
	}
	great := numberOf(1e300)
	writes(t, great, "\xc2\x58\x7d"+string(bigOf(great).Bytes()))
	fails(t, ext(5, "abc"), rep, "")
}
