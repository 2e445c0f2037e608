package packread_test

import (
	"strings"
	"testing"

	"crucible/api"
)

// P23.1: the chapter's examples of what is read, row by row.
func TestKnown(t *testing.T) {
	for _, c := range []struct {
		s    string
		want api.Value
	}{
		{"07", whole("7")}, {"7f", whole("127")}, {"ff", whole("-1")}, {"e0", whole("-32")}, {"cc 07", whole("7")}, {"cf ff ff ff ff ff ff ff ff", whole("18446744073709551615")},
		{"d0 80", whole("-128")}, {"d1 00 05", whole("5")}, {"d2 ff ff ff ff", whole("-1")}, {"d3 80 00 00 00 00 00 00 00", whole("-9223372036854775808")},
		{"ca 3f c0 00 00", float(0x3ff8000000000000)}, {"cb 3f f0 00 00 00 00 00 00", whole("1")}, {"ca 80 00 00 00", whole("0")}, {"ca 7f 80 00 01", float(0x7ff8000000000000)},
		{"c0", null}, {"c2", no}, {"c3", yes},
		{"a2 c3 a9", text("é")}, {"d9 01 61", text("a")}, {"da 00 00", text("")}, {"c4 02 01 02", raw("\x01\x02")},
		{"93 01 90 dc 00 01 c0", list(whole("1"), list(), list(null))}, {"82 a1 62 01 a1 61 02", object(text("a"), whole("2"), text("b"), whole("1"))}, {"de 00 01 01 02", object(whole("1"), whole("2"))}, {"80", object()},
		{"d4 05 01", extension(5, "\x01")}, {"c7 03 ff 61 62 63", extension(-1, "abc")}, {"c7 00 05", extension(5, "")}, {"d6 ff 00 00 00 00", extension(-1, "\x00\x00\x00\x00")},
	} {
		reads(t, of(c.s), c.want)
	}
	reads(t, strings.Repeat("\x91", 128)+"\x01", nested(128, whole("1")))
	long := strings.Repeat("\xc1", 1048571)
	reads(t, "\xc6\x00\x0f\xff\xfb"+long, raw(long))
}

// P23.1: the chapter's examples of what is refused, row by row.
func TestKnownFaults(t *testing.T) {
	for _, s := range []string{
		"^", "cd 01 ^", "a2 61 ^", "92 01 ^", "c7 01 ^", "d4 05 ^", "db ff ff ff ff 61 ^",
		"^ c1", "92 01 ^ c1", "01 ^ 02", "a1 ^ ff", "a2 c3 ^ 28", "a1 ^ c3", "a3 e2 82 ^ c3",
		"82 01 02 ^ 01 03", "82 01 02 ^ ca 3f 80 00 00 03", "82 01 02 ^ 01 c1",
	} {
		failsAt(t, s)
	}
	deep := strings.Repeat("\x91", 128)
	fails(t, deep+"\x91\x01", limit, 128)
	fails(t, deep+"\x91", limit, 128)
	fails(t, deep+"\xdc\x00", input, 130)
	long := strings.Repeat("\xc1", 1048572)
	fails(t, "\xc6\x00\x0f\xff\xfb"+long, limit, 1048576)
	fails(t, "\xc6\x00\x0f\xff\xfc"+long, limit, 1048576)
}

// P23.2: the chapter's examples.
func TestKnownNext(t *testing.T) {
	s := of("00 ff c3")
	nextAnswers(t, s, 1, whole("-1"), 2, told{})
	nextAnswers(t, s, 3, api.Value{}, 0, told{input, 3})
	nextAnswers(t, "\x00", -1, api.Value{}, 0, told{code: arg})
	nextAnswers(t, "\x00", 2, api.Value{}, 0, told{code: arg})
}

// DOC.md's examples of the whole, as far as they tell what MessagePack is read as.
func TestKnownOfTheWhole(t *testing.T) {
	for _, c := range []struct {
		s    string
		want api.Value
	}{
		{"82 a1 61 93 64 00 01 a1 62 01", object(text("a"), list(whole("100"), whole("0"), whole("1")), text("b"), whole("1"))}, {"cb 7e 37 e4 3c 88 00 75 9c", numberOf(1e300)}, {"ca 3f c0 00 00", float(0x3ff8000000000000)}, {"ca 7f c0 00 00", float(0x7ff8000000000000)},
		{"ca 5f 80 00 00", whole("18446744073709551616")}, {"93 c0 c2 07", list(null, no, whole("7"))}, {"c7 03 05 61 62 63", extension(5, "abc")}, {"c4 02 01 02", raw("\x01\x02")},
	} {
		reads(t, of(c.s), c.want)
	}
}
