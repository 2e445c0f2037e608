package packwrite_test

import (
	"slices"
	"strings"
	"testing"

	"crucible/api"
)

// P24.2: the chapter's examples of what is written, row by row.
func TestKnown(t *testing.T) {
	for _, c := range []struct {
		v    api.Value
		want string
	}{
		{null, "c0"}, {no, "c2"}, {yes, "c3"},
		{num(0), "00"}, {num(127), "7f"}, {num(128), "cc 80"}, {num(255), "cc ff"}, {num(256), "cd 01 00"}, {num(65536), "ce 00 01 00 00"}, {num(4294967296), "cf 00 00 00 01 00 00 00 00"}, {whole("18446744073709551615"), "cf ff ff ff ff ff ff ff ff"},
		{num(-1), "ff"}, {num(-32), "e0"}, {num(-33), "d0 df"}, {num(-128), "d0 80"}, {num(-129), "d1 ff 7f"}, {num(-32769), "d2 ff ff 7f ff"}, {num(-2147483649), "d3 ff ff ff ff 7f ff ff ff"}, {num(-9223372036854775808), "d3 80 00 00 00 00 00 00 00"},
		{whole("18446744073709551616"), "ca 5f 80 00 00"}, {whole("-9223372036854777856"), "cb c3 e0 00 00 00 00 00 01"},
		{float(half3), "ca 3f c0 00 00"}, {float(0x3fb999999999999a), "cb 3f b9 99 99 99 99 99 9a"}, {float(noNumber), "ca 7f c0 00 00"}, {float(minus), "ca ff 80 00 00"},
		{text("é"), "a2 c3 a9"}, {text(""), "a0"}, {text(strings.Repeat("a", 31)), "bf" + strings.Repeat("61", 31)}, {text(strings.Repeat("a", 32)), "d9 20" + strings.Repeat("61", 32)}, {text(strings.Repeat("a", 256)), "da 01 00" + strings.Repeat("61", 256)},
		{raw("\x01\x02"), "c4 02 01 02"}, {list(), "90"}, {list(num(1), list(num(2))), "92 01 91 02"}, {list(slices.Repeat([]api.Value{num(0)}, 16)...), "dc 00 10" + strings.Repeat("00", 16)},
		{object(text("a"), num(2), text("b"), num(1)), "82 a1 61 02 a1 62 01"},
		{object(no, num(6), num(-1), num(3), num(10), num(1), text("z"), num(4)), "84 0a 01 a1 7a 04 c2 06 ff 03"},
		{object(text("aa"), num(1), text("b"), num(2)), "82 a1 62 02 a2 61 61 01"},
		{ext(5, "\x61\x62\x63"), "c7 03 05 61 62 63"}, {ext(-1, "\x00"), "d4 ff 00"}, {ext(7, ""), "c7 00 07"},
	} {
		writes(t, c.v, of(c.want))
	}
	long := strings.Repeat("a", 1048571)
	writes(t, raw(long), "\xc6\x00\x0f\xff\xfb"+long)
}

// P24.1: the chapter's examples of what is refused.
func TestKnownRefused(t *testing.T) {
	fails(t, whole("18446744073709551617"), rep, "")
	fails(t, whole("-9223372036854775809"), rep, "")
	fails(t, tag(1, num(0)), rep, "")
	fails(t, list(num(0), simple(23)), rep, "/1")
	fails(t, object(text("a"), simple(0)), rep, "/1")
	fails(t, none, arg, "")
	fails(t, raw(strings.Repeat("a", 1048572)), limit, "")
}

// P24.4: the chapter's examples.
func TestKnownCanon(t *testing.T) {
	for _, s := range []string{"cc 80", "d0 df", "ca 3f c0 00 00", "ca 5f 80 00 00", "cb c3 e0 00 00 00 00 00 01", "82 a1 61 02 a1 62 01", "d4 ff 00", "c4 00"} {
		canon(t, of(s), true)
	}
	for _, s := range []string{
		"cc 7f", "d0 e0", "d0 01", "cd 00 ff", "d1 ff 80", "cb 3f f8 00 00 00 00 00 00", "ca 3f 80 00 00", "ca 7f c0 00 01", "cb 7f f0 00 00 00 00 00 00", "ca 80 00 00 00", "ca df 00 00 00",
		"82 a1 62 01 a1 61 02", "82 01 00 01 00", "d9 01 61", "dc 00 00", "de 00 00", "c7 01 ff 00", "c5 00 00", "a1 ff", "c1", "", "c0 c0",
	} {
		canon(t, of(s), false)
	}
}

// DOC.md's examples of the whole, as far as they tell what is written as MessagePack.
func TestKnownOfTheWhole(t *testing.T) {
	one, two := num(1), num(2)
	for _, c := range []struct {
		v    api.Value
		want string
	}{
		{object(text("a"), list(num(100), num(0), one), text("b"), one), "82 a1 61 93 64 00 01 a1 62 01"}, {numberOf(1e300), "cb 7e 37 e4 3c 88 00 75 9c"}, {float(half3), "ca 3f c0 00 00"}, {float(noNumber), "ca 7f c0 00 00"}, {whole("18446744073709551616"), "ca 5f 80 00 00"},
		{object(text("é"), one, text("ﬀ"), one, text("😀"), two), "83 a2 c3 a9 01 a3 ef ac 80 01 a4 f0 9f 98 80 02"}, {list(null, no, num(7)), "93 c0 c2 07"}, {ext(5, "abc"), "c7 03 05 61 62 63"}, {raw("\x01\x02"), "c4 02 01 02"},
	} {
		writes(t, c.v, of(c.want))
	}
	fails(t, whole("18446744073709551617"), rep, "")
	fails(t, tag(1, num(1363896240)), rep, "")
}
