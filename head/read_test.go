package head_test

import (
	"strings"
	"testing"

	"crucible/api"
)

// P19.1: the chapter's examples, and what is like them.
func TestReadKnown(t *testing.T) {
	for _, c := range []struct {
		s    string
		at   int
		want api.Head
	}{
		{"\x00", 0, api.Head{Major: 0, Info: 0, Arg: 0, Size: 1}},
		{"\x17", 0, api.Head{Major: 0, Info: 23, Arg: 23, Size: 1}},
		{"\x18\x18", 0, api.Head{Major: 0, Info: 24, Arg: 24, Size: 2}},
		{"\x18\x05", 0, api.Head{Major: 0, Info: 24, Arg: 5, Size: 2}},
		{"\x39\x01\x00", 0, api.Head{Major: 1, Info: 25, Arg: 256, Size: 3}},
		{"\x5a\x00\x01\x00\x00", 0, api.Head{Major: 2, Info: 26, Arg: 65536, Size: 5}},
		{"\x3b\xff\xff\xff\xff\xff\xff\xff\xff", 0, api.Head{Major: 1, Info: 27, Arg: 18446744073709551615, Size: 9}},
		{"\x9f", 0, api.Head{Major: 4, Info: 31, Arg: 0, Size: 1}},
		{"\xff", 0, api.Head{Major: 7, Info: 31, Arg: 0, Size: 1}},
		{"\xf9\x3e\x00", 0, api.Head{Major: 7, Info: 25, Arg: 15872, Size: 3}},
		{"\x00\x61\x62", 1, api.Head{Major: 3, Info: 1, Arg: 1, Size: 1}},
		{"\x5f", 0, api.Head{Major: 2, Info: 31, Size: 1}},
		{"\x7f", 0, api.Head{Major: 3, Info: 31, Size: 1}},
		{"\xbf\x01", 0, api.Head{Major: 5, Info: 31, Size: 1}},
		// What is no item all the same has a head: a simple value below 32 in two bytes.
		{"\xf8\x05", 0, api.Head{Major: 7, Info: 24, Arg: 5, Size: 2}},
		{"\xf8\x1f", 0, api.Head{Major: 7, Info: 24, Arg: 31, Size: 2}},
		{"\xdb\x00\x00\x00\x00\x00\x00\x00\x02", 0, api.Head{Major: 6, Info: 27, Arg: 2, Size: 9}},
		{"\x1b\x01\x02\x03\x04\x05\x06\x07\x08\x09", 0, api.Head{Info: 27, Arg: 0x0102030405060708, Size: 9}},
		{"\x1a\xfe\xdc\xba\x98", 0, api.Head{Info: 26, Arg: 0xfedcba98, Size: 5}},
	} {
		readIs(t, c.s, c.at, c.want)
	}
	for _, c := range []struct {
		s         string
		at, place int
	}{
		{"\x00", 1, 1}, {"\x1c", 0, 0}, {"\x1f", 0, 0}, {"\x3f", 0, 0}, {"\xdf", 0, 0}, {"\xfe\x00", 0, 0},
		{"\x19\x01", 0, 2}, {"\x1b\x00", 0, 2}, {"", 0, 0}, {"\x18", 0, 1}, {"\x1a\x00\x00\x00", 0, 4}, {"\x1b\x00\x00\x00\x00\x00\x00\x00", 0, 8},
		{"\x00\x00\x1d\x00", 2, 2}, {"\x00\x00\x19\x00", 2, 4}, {"\x00\x18", 1, 2}, {"\xff\xfd", 1, 1},
	} {
		readFails(t, c.s, c.at, c.place)
	}
	readRefuses(t, "\x00", 2)
	readRefuses(t, "\x00", -1)
}

// P19.1: every first byte, with every number of bytes behind it up to more than any head has, after any number of bytes ahead.
func TestReadEveryFirstByte(t *testing.T) {
	fillings := []string{strings.Repeat("\x00", 12), strings.Repeat("\xff", 12), strings.Repeat("\x1c", 12), "\x01\x02\x03\x04\x05\x06\x07\x08\x09\x0a\x0b\x0c", "\x80\x70\x60\x50\x40\x30\x20\x10\xf0\xe0\xd0\xc0"}
	for first := range 256 {
		for _, filling := range fillings {
			for n := range len(filling) + 1 {
				for ahead := range 4 {
					s := filling[:ahead] + string([]byte{byte(first)}) + filling[:n]
					sameAsReference(t, s, ahead)
				}
			}
		}
	}
}

// P19.1: every one and every two bytes, at every place.
func TestReadShort(t *testing.T) {
	for n := range 1 << 16 {
		if t.Failed() {
			break
		}
		s := string([]byte{byte(n >> 8), byte(n)})
		for at := -1; at <= 3; at++ {
			sameAsReference(t, s, at)
			sameAsReference(t, s[1:], at)
		}
	}
}

// P19.1: every argument of one and of two bytes; those about the edges in every form.
func TestReadArguments(t *testing.T) {
	for n := range 1 << 16 {
		readIs(t, "\x99"+string([]byte{byte(n >> 8), byte(n)}), 0, api.Head{Major: 4, Info: 25, Arg: uint64(n), Size: 3})
		readIs(t, "\xd8"+string([]byte{byte(n)}), 0, api.Head{Major: 6, Info: 24, Arg: uint64(n % 256), Size: 2})
	}
	for _, arg := range edges() {
		for major := range uint8(8) {
			for _, s := range forms(major, arg) {
				readIs(t, s, 0, api.Head{Major: major, Info: s[0] % 32, Arg: arg, Size: len(s)})
			}
		}
	}
}

// P19.1: a place that is none is ErrArg, whatever stands in the text, and no place is told.
func TestReadOutside(t *testing.T) {
	for _, s := range []string{"", "\x00", "\x1c", "\x1b", "\xff\xff", "\x1b\x00\x00\x00\x00\x00\x00\x00\x00", strings.Repeat("\x18\x18", 1000)} {
		for _, at := range []int{least, least + 1, -1 << 32, -1 << 31, -len(s) - 1, -9, -2, -1, len(s) + 1, len(s) + 2, len(s) + 9, 1 << 31, 1 << 32, 1 << 62, most - 9, most - 8, most - 1, most} {
			readRefuses(t, s, at)
		}
		readFails(t, s, len(s), len(s))
	}
}

// P19.1: at every place of any bytes.
func TestReadEverywhere(t *testing.T) {
	r := rule{11}
	for range 20000 {
		s := r.bytes(16)
		for at := -2; at <= len(s)+2; at++ {
			sameAsReference(t, s, at)
		}
	}
}

// P19.1: a byte that begins no head is told at its own place, whether or not the text ends there.
func TestReadNoHead(t *testing.T) {
	seen := 0
	for first, size := range sizes() {
		if size != 0 {
			continue
		}
		seen++
		s := string([]byte{byte(first)})
		for n := range 12 {
			readFails(t, s+strings.Repeat("\x00", n), 0, 0)
			readFails(t, strings.Repeat("\x1b", n)+s, n, n)
		}
	}
	if seen != 27 {
		t.Errorf("%d bytes begin no head", seen)
	}
}
