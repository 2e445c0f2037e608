package cborread_test

import (
	"strings"
	"testing"

	"crucible/api"
)

// P20.1: the chapter's examples of what is read, row by row.
func TestKnown(t *testing.T) {
	for _, c := range []struct {
		s    string
		want api.Value
	}{
		{"00", whole("0")}, {"18 05", whole("5")}, {"1b 00 00 00 00 00 00 00 05", whole("5")}, {"20", whole("-1")}, {"3b ff ff ff ff ff ff ff ff", whole("-18446744073709551616")},
		{"c2 41 05", whole("5")}, {"c2 42 00 05", whole("5")}, {"c3 49 01 00 00 00 00 00 00 00 00", whole("-18446744073709551617")}, {"c2 5f 41 01 41 00 ff", whole("256")}, {"c2 40", whole("0")},
		{"62 c3 a9", text("é")}, {"7f 61 61 60 61 62 ff", text("ab")}, {"43 01 02 03", raw("\x01\x02\x03")}, {"5f ff", raw("")},
		{"83 01 82 02 03 9f 04 ff", list(whole("1"), list(whole("2"), whole("3")), list(whole("4")))}, {"a2 61 62 01 61 61 02", object(text("a"), whole("2"), text("b"), whole("1"))}, {"bf 01 02 ff", object(whole("1"), whole("2"))}, {"9f ff", list()},
		{"f4", no}, {"f6", null}, {"f7", simple(23)}, {"f8 20", simple(32)}, {"e0", simple(0)}, {"c1 01", tag(1, whole("1"))},
		{"f9 3e 00", float(0x3ff8000000000000)}, {"fa 3f c0 00 00", float(0x3ff8000000000000)}, {"f9 3c 00", whole("1")}, {"f9 80 00", whole("0")}, {"f9 7c 01", float(0x7ff8000000000000)}, {"fb ff f0 00 00 00 00 00 00", float(0xfff0000000000000)},
	} {
		reads(t, of(c.s), c.want)
	}
	reads(t, strings.Repeat("\x81", 128)+"\x00", nested(128, whole("0")))
	tags := whole("0")
	for range 128 {
		tags = tag(1, tags)
	}
	reads(t, strings.Repeat("\xc1", 128)+"\xc2\x40", tags)
	long := strings.Repeat("\x5a", 1048571)
	reads(t, "\x5a\x00\x0f\xff\xfb"+long, raw(long))
}

// P20.1: the chapter's examples of what is refused, row by row.
func TestKnownFaults(t *testing.T) {
	for _, s := range []string{
		"^", "18 ^", "43 01 02 ^", "82 01 ^", "7b 7f ff ff ff ff ff ff ff 61 ^",
		"^ 1c", "^ 1f", "^ ff", "00 ^ 00", "f8 ^ 1f", "82 01 ^ ff", "bf 01 ^ ff",
		"61 ^ ff", "62 c3 ^ 28", "61 ^ c3", "63 e2 82 ^ c3", "7f 61 ^ c3 61 a9 ff", "7f ^ 41 61 ff", "5f ^ 5f ff ff",
		"c2 ^ 01", "c2 ^ c2 40", "c3 ^ 61 61", "c2 ^ ff",
		"a2 01 02 ^ 01 03", "a2 01 02 ^ f9 3c 00 03", "a2 82 01 02 00 ^ 82 01 18 02 00", "a2 01 02 ^ 01 1c",
	} {
		failsAt(t, s)
	}
	fails(t, strings.Repeat("\x81", 129)+"\x00", limit, 128)
	fails(t, strings.Repeat("\x81", 129), limit, 128)
	long := strings.Repeat("\x5a", 1048572)
	fails(t, "\x5a\x00\x0f\xff\xfb"+long, limit, 1048576)
	fails(t, "\x5a\x00\x0f\xff\xfc"+long, limit, 1048576)
}

// P20.2: the chapter's examples.
func TestKnownNext(t *testing.T) {
	s := of("00 20 f5")
	nextAnswers(t, s, 1, whole("-1"), 2, told{})
	nextAnswers(t, s, 3, api.Value{}, 0, told{input, 3})
	nextAnswers(t, "\x00", -1, api.Value{}, 0, told{code: arg})
	nextAnswers(t, "\x00", 2, api.Value{}, 0, told{code: arg})
}

// DOC.md's examples of the whole, as far as they tell what CBOR is read as.
func TestKnownOfTheWhole(t *testing.T) {
	one, two := whole("1"), whole("2")
	for _, c := range []struct {
		s    string
		want api.Value
	}{
		{"a2 61 61 83 18 64 00 01 61 62 01", object(text("a"), list(whole("100"), whole("0"), one), text("b"), one)}, {"fb 3f f8 00 00 00 00 00 00", float(0x3ff8000000000000)}, {"fb 3f b9 99 99 99 99 99 9a", float(0x3fb999999999999a)},
		{"fa 7f 80 00 01", float(0x7ff8000000000000)}, {"f9 7e 00", float(0x7ff8000000000000)}, {"f9 7c 00", float(0x7ff0000000000000)}, {"c2 49 01 00 00 00 00 00 00 00 00", whole("18446744073709551616")}, {"c2 49 01 00 00 00 00 00 00 00 01", whole("18446744073709551617")},
		{"68 c3 a9 f0 9f 98 80 2f 0a", text("é😀/\n")}, {"81 f5", list(yes)}, {"c1 1a 51 4b 67 b0", tag(1, whole("1363896240"))}, {"42 01 02", raw("\x01\x02")},
		{"a3 62 c3 a9 01 64 f0 9f 98 80 02 63 ef ac 80 01", object(text("é"), one, text("ﬀ"), one, text("😀"), two)},
	} {
		reads(t, of(c.s), c.want)
	}
	failsAt(t, "a2 01 02 ^ 01 03")
	failsAt(t, "a2 01 02 ^ f9 3c 00 03")
}
