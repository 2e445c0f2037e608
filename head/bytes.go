package head

// simples is the greatest major type: that of simple values, floats and breaks.
const simples uint8 = 7

// The informations at which something turns.
const (
	longer  uint8 = 24 // the first one whose argument stands behind it
	halves  uint8 = 25 // of major type 7 the floats of 16 bits
	doubles uint8 = 27 // and those of 64
	open    uint8 = 31 // how much there is is not told
)

// behind is how many bytes each information has behind it, below 0 where no head has it.
var behind = [...]int{
	0, 0, 0, 0, 0, 0, 0, 0, 0, 0, 0, 0, 0, 0, 0, 0,
	0, 0, 0, 0, 0, 0, 0, 0, 1, 2, 4, 8, -1, -1, -1, 0,
}

// begins: is there a head with this first byte?
func begins(major, info uint8) bool {
	if info != open {
		return behind[info] >= 0
	}
	switch major {
	case 2, 3, 4, 5, simples:
		return true
	}
	return false
}

// argument is what an information says with the bytes behind it; where it is open there are none, which makes 0.
func argument(info uint8, bytes string) uint64 {
	if info < longer {
		return uint64(info)
	}
	arg := uint64(0)
	for i := range len(bytes) {
		arg = arg<<8 | uint64(bytes[i])
	}
	return arg
}

// isSimple: is there a simple value of this number? There is none where the number, in one byte, would be taken for another information.
func isSimple(arg uint64) bool {
	return arg < uint64(longer) || arg > uint64(open) && arg < 256
}

// shortest is the information with which an argument takes the fewest bytes.
func shortest(arg uint64) uint8 {
	if arg < uint64(longer) {
		return uint8(arg)
	}
	info := longer
	for !fits(arg, info) {
		info++
	}
	return info
}

// fits: do the bytes behind an information hold the argument? (Eight of them hold every one: a shift by 64 leaves nothing.)
func fits(arg uint64, info uint8) bool {
	return arg>>(8*behind[info]) == 0
}

// laid is a head. The whole argument is laid down; the first byte then goes over what is not needed of it.
func laid(major, info uint8, arg uint64) string {
	var bytes [9]byte
	for i := len(bytes) - 1; i > 0; i-- {
		bytes[i] = byte(arg)
		arg >>= 8
	}
	from := len(bytes) - 1 - behind[info]
	bytes[from] = major<<5 | info
	return string(bytes[from:])
}
