package head_test

import (
	"testing"

	"crucible/head"
)

// P19.2: the chapter's examples, and what is like them.
func TestWriteKnown(t *testing.T) {
	for _, c := range []struct {
		major uint8
		arg   uint64
		want  string
	}{
		{0, 23, "\x17"}, {0, 24, "\x18\x18"}, {5, 256, "\xb9\x01\x00"}, {6, 65536, "\xda\x00\x01\x00\x00"}, {1, 4294967296, "\x3b\x00\x00\x00\x01\x00\x00\x00\x00"},
		{7, 20, "\xf4"}, {7, 32, "\xf8\x20"}, {7, 255, "\xf8\xff"}, {7, 0, "\xe0"}, {7, 23, "\xf7"}, {7, 33, "\xf8\x21"},
		{0, 0, "\x00"}, {0, 31, "\x18\x1f"}, {2, 28, "\x58\x1c"}, {0, 255, "\x18\xff"}, {2, 65535, "\x59\xff\xff"}, {3, 4294967295, "\x7a\xff\xff\xff\xff"},
		{4, 18446744073709551615, "\x9b\xff\xff\xff\xff\xff\xff\xff\xff"}, {6, 0x0102030405060708, "\xdb\x01\x02\x03\x04\x05\x06\x07\x08"}, {3, 0x010203, "\x7a\x00\x01\x02\x03"},
	} {
		writeIs(t, c.major, c.arg, c.want)
	}
	for _, c := range []struct {
		major uint8
		arg   uint64
	}{{7, 24}, {7, 31}, {7, 256}, {8, 0}, {7, 25}, {7, 26}, {7, 27}, {7, 28}, {7, 29}, {7, 30}, {7, 65535}, {7, 65536}, {7, 1<<32 + 20}, {7, 1<<64 - 1}, {8, 24}, {9, 1}, {32, 0}, {128, 0}, {255, 1}, {255, 1<<64 - 1}} {
		writeFails(t, c.major, c.arg)
	}
}

// sameAsForms asks Write of a major type and an argument.
func sameAsForms(t *testing.T, major uint8, arg uint64) {
	t.Helper()
	simple := arg <= 23 || arg >= 32 && arg <= 255
	if major > 7 || major == 7 && !simple {
		writeFails(t, major, arg)
		return
	}
	writeIs(t, major, arg, forms(major, arg)[0])
}

// P19.2: every argument that one and two bytes hold, and some more.
func TestWriteSmall(t *testing.T) {
	for arg := range uint64(1<<16 + 1000) {
		for major := range uint8(10) {
			sameAsForms(t, major, arg)
		}
	}
}

// P19.2: every major type there is in a byte, with the arguments about the edges.
func TestWriteEdges(t *testing.T) {
	all := edges()
	for major := range 256 {
		for _, arg := range all {
			sameAsForms(t, uint8(major), arg)
		}
	}
}

// P19.2: any arguments.
func TestWriteAny(t *testing.T) {
	r := rule{21}
	for range 100000 {
		sameAsForms(t, uint8(r.below(9)), r.arg())
	}
}

// P19.2: how long a head is hangs on the edges of the widths alone.
func TestWriteLengths(t *testing.T) {
	for _, c := range []struct {
		arg  uint64
		want int
	}{
		{0, 1}, {23, 1}, {24, 2}, {1<<8 - 1, 2}, {1 << 8, 3}, {1<<16 - 1, 3}, {1 << 16, 5}, {1<<24 - 1, 5}, {1 << 24, 5}, {1<<32 - 1, 5},
		{1 << 32, 9}, {1 << 40, 9}, {1 << 48, 9}, {1 << 56, 9}, {1 << 63, 9}, {1<<64 - 1, 9},
	} {
		for major := range uint8(7) {
			if got, ok := head.Write(major, c.arg); len(got) != c.want || !ok {
				t.Errorf("Write(%d, %d) has %d bytes, %v, want %d", major, c.arg, len(got), ok, c.want)
			}
		}
	}
}
