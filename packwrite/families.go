package packwrite

// family of heads: all that say one sort of number. They differ in how many bytes the number has.
type family int

const (
	naturals family = iota
	negatives
	texts
	byteStrings
	lists
	dictionaries
	extensions
)

// families of heads. The numbers below so many are said by the first byte itself, from zero on; others in 1, 2, 4 or 8 bytes behind that of firsts, where it is not 0.
var families = [...]struct {
	below  uint64
	zero   byte
	firsts [4]byte
}{
	naturals:     {128, 0x00, [...]byte{0xcc, 0xcd, 0xce, 0xcf}},
	negatives:    {0, 0x00, [...]byte{0xd0, 0xd1, 0xd2, 0xd3}},
	texts:        {32, 0xa0, [...]byte{0xd9, 0xda, 0xdb, 0}},
	byteStrings:  {0, 0x00, [...]byte{0xc4, 0xc5, 0xc6, 0}},
	lists:        {16, 0x90, [...]byte{0, 0xdc, 0xdd, 0}},
	dictionaries: {16, 0x80, [...]byte{0, 0xde, 0xdf, 0}},
	extensions:   {0, 0x00, [...]byte{0xc7, 0xc8, 0xc9, 0}},
}

// sized are the first bytes of the extensions of 1, 2, 4, 8 and 16 bytes.
var sized = [...]byte{0xd4, 0xd5, 0xd6, 0xd7, 0xd8}

// leastAlone is the least number that the first byte is itself.
const leastAlone = -32

// The first bytes of what has one form.
const (
	nothing byte = 0xc0
	falsity byte = 0xc2 // and behind it what is true
	single  byte = 0xca
	double  byte = 0xcb
)

// wide is in how many bytes the heads at a place of firsts say a number.
func wide(place int) int { return 1 << place }

// isIn: do so many bytes hold n? (A shift by 64 leaves nothing.)
func isIn(bytes int, n uint64) bool { return n>>(8*bytes) == 0 }

// isBelowIn: do so many bytes hold n, which is below 0, in two's complement?
func isBelowIn(bytes int, n int64) bool { return n>>(8*bytes-1) == -1 }

// said is a first byte, and n in so many bytes behind it.
func said(first byte, n uint64, bytes int) string {
	out := make([]byte, 1+bytes)
	out[0] = first
	for i := range bytes {
		out[bytes-i] = byte(n >> (8 * i))
	}
	return string(out)
}
