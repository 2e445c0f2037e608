package head_test

import (
	"encoding/binary"
	"testing"
)

// P19.3: the chapter's examples, and what is like them.
func TestFloatKnown(t *testing.T) {
	for _, c := range []struct {
		width int
		bits  uint64
		want  string
	}{
		{16, 15872, "\xf9\x3e\x00"}, {32, 1, "\xfa\x00\x00\x00\x01"}, {64, 1, "\xfb\x00\x00\x00\x00\x00\x00\x00\x01"},
		{16, 0, "\xf9\x00\x00"}, {32, 0, "\xfa\x00\x00\x00\x00"}, {64, 0, "\xfb\x00\x00\x00\x00\x00\x00\x00\x00"},
		{16, 65535, "\xf9\xff\xff"}, {32, 4294967295, "\xfa\xff\xff\xff\xff"}, {64, 18446744073709551615, "\xfb\xff\xff\xff\xff\xff\xff\xff\xff"},
		{16, 0x7e01, "\xf9\x7e\x01"}, {32, 0x3fc00000, "\xfa\x3f\xc0\x00\x00"}, {64, 0x3fb999999999999a, "\xfb\x3f\xb9\x99\x99\x99\x99\x99\x9a"},
		{64, 0x3e00, "\xfb\x00\x00\x00\x00\x00\x00\x3e\x00"}, {32, 0x3e00, "\xfa\x00\x00\x3e\x00"}, {64, 0x0102030405060708, "\xfb\x01\x02\x03\x04\x05\x06\x07\x08"},
	} {
		floatIs(t, c.width, c.bits, c.want)
	}
	for _, c := range []struct {
		width int
		bits  uint64
	}{{16, 65536}, {32, 4294967296}, {8, 1}, {0, 0}, {-16, 0}, {-32, 0}, {-64, 0}, {16, 1<<64 - 1}, {32, 1<<64 - 1}, {16, 1 << 63}, {32, 1 << 63}, {16, 1 << 16 << 16}, {128, 0}, {80, 0}} {
		floatFails(t, c.width, c.bits)
	}
}

// sameAsFloat asks Float of a width and bits.
func sameAsFloat(t *testing.T, width int, bits uint64) {
	t.Helper()
	switch {
	case width == 16 && bits <= 0xffff:
		floatIs(t, width, bits, string(binary.BigEndian.AppendUint16([]byte{0xf9}, uint16(bits))))
	case width == 32 && bits <= 0xffffffff:
		floatIs(t, width, bits, string(binary.BigEndian.AppendUint32([]byte{0xfa}, uint32(bits))))
	case width == 64:
		floatIs(t, width, bits, string(binary.BigEndian.AppendUint64([]byte{0xfb}, bits)))
	default:
		floatFails(t, width, bits)
	}
}

// P19.3: every pattern of 16 bits, in each width.
func TestFloatSmall(t *testing.T) {
	for bits := range uint64(1<<16 + 1000) {
		for _, width := range []int{16, 32, 64} {
			sameAsFloat(t, width, bits)
		}
	}
}

// P19.3: all widths about those that there are, and such as are far off, with the bits about the edges.
func TestFloatWidths(t *testing.T) {
	widths := []int{least, least + 16, least + 32, least + 64, most, most - 1, 1<<32 + 16, 1<<32 + 32, 1<<32 + 64, 1 << 31, 1 << 32, 256, 256 + 16, 65536 + 32, 512 + 64}
	for width := -140; width <= 140; width++ {
		widths = append(widths, width)
	}
	all := edges()
	for _, width := range widths {
		for _, bits := range all {
			sameAsFloat(t, width, bits)
		}
	}
}

// P19.3: any bits.
func TestFloatAny(t *testing.T) {
	r := rule{31}
	for range 100000 {
		sameAsFloat(t, []int{16, 32, 64}[r.below(3)], r.arg())
	}
}
