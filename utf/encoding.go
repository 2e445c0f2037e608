package utf

import "strings"

// Where the code points begin that need one byte more, and the greatest one.
const (
	two   rune = 128
	three rune = 2048
	wide  rune = 65536
	most  rune = 1114111
)

// size is how many bytes the encoding of a code point has; 0 of what is none.
func size(r rune) int {
	switch {
	case r < 0 || r > most || isHigh(r) || isLow(r):
		return 0
	case r < two:
		return 1
	case r < three:
		return 2
	case r < wide:
		return 3
	}
	return 4
}

// lead is what the first byte of an encoding tells: the code point's highest bits, and how many bytes there are; 0 of a byte that begins none.
func lead(b byte) (bits rune, n int) {
	switch {
	case b>>7 == 0:
		return rune(b), 1
	case b>>5 == 0b110:
		return rune(b & 0b11111), 2
	case b>>4 == 0b1110:
		return rune(b & 0b1111), 3
	case b>>3 == 0b11110:
		return rune(b & 0b111), 4
	}
	return 0, 0
}

// write puts the encoding of a code point behind what is there.
func write(out *strings.Builder, r rune) {
	switch size(r) {
	case 1:
		out.WriteByte(byte(r))
		return
	case 2:
		out.WriteByte(0b11000000 | byte(r>>6))
	case 3:
		out.WriteByte(0b11100000 | byte(r>>12))
		out.WriteByte(behind(r >> 6))
	case 4:
		out.WriteByte(0b11110000 | byte(r>>18))
		out.WriteByte(behind(r >> 12))
		out.WriteByte(behind(r >> 6))
	}
	out.WriteByte(behind(r))
}

// behind is a byte behind the first one of an encoding: the lowest six bits.
func behind(r rune) byte { return 0b10000000 | byte(r&0b111111) }
