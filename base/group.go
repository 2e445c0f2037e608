package base

// numberIn is the number of a letter among those of an alphabet.
func numberIn(alphabet string, letter byte) (number byte, ok bool) {
	for i, r := range alphabet {
		if r == rune(letter) {
			return byte(i), true
		}
	}
	return 0, false
}

// fourOf are the letters of a group of three bytes.
func fourOf(three [3]byte) (four [4]byte) {
	bits := uint32(three[0])<<16 | uint32(three[1])<<8 | uint32(three[2])
	for i := range four {
		four[i] = letters[bits>>(18-6*i)&63]
	}
	return four
}

// threeOf are the bytes of a group of up to four letters, one byte fewer than letters and noughts behind them; false: there is no such group.
func threeOf(group []byte) (three [3]byte, ok bool) {
	// Six bits are too few for a byte.
	if len(group) < 2 {
		return [3]byte{}, false
	}
	bits := uint32(0)
	for i, letter := range group {
		number, known := numberIn(letters, letter)
		if !known {
			return [3]byte{}, false
		}
		bits |= uint32(number) << (18 - 6*i)
	}
	three = [3]byte{byte(bits >> 16), byte(bits >> 8), byte(bits)}
	// Base64 puts noughts behind the last bits, so that a text with others there is none of its own.
	for _, left := range three[len(group)-1:] {
		if left != 0 {
			return [3]byte{}, false
		}
	}
	return three, true
}
