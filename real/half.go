package real

// The sign bit, the infinite one and the one for no number among the patterns of 16 bits.
const (
	halfSign     uint16 = 0x8000
	halfInfinite uint16 = 0x7c00
	halfNoNumber uint16 = 0x7e00
)

// The digits of the fractions; for the same power of 2 the exponent bits of 64 bits are greater by moreExponent than those of 16 bits.
const (
	fraction     = 52
	halfFraction = 10
	moreDigits   = fraction - halfFraction
	moreExponent = 1023 - 15
)

// Half: the pattern of the nearest of 16 bits; is it the same? (P5.2)
func Half(x float64) (uint16, bool) {
	if x != x {
		return halfNoNumber, true
	}
	sign := uint16(Bits(x)>>48) & halfSign
	size := sizeOf(x)
	// From here on all are infinite; what is rounded up to here is so too, by its pattern.
	if size >= 1<<16 {
		return sign | halfInfinite, size == Float(infinite)
	}
	near := nearHalf(size)
	return sign | halfOf(near), near == size
}

// sizeOf is x without its sign, of -0 too, which no sign of the language tells from 0.
func sizeOf(x float64) float64 {
	return Float(Bits(x) &^ (1 << 63))
}

// nearHalf rounds a size below 65536 to the steps of the halves about it. The power of 2 that is added is so great that the last binary digit of the sum counts one of these steps: the sum is rounded where the half is, and to even likewise.
func nearHalf(size float64) float64 {
	// Below the least normal half the steps get no finer.
	exponent := max(Bits(size)>>fraction, moreExponent+1)
	power := Float((exponent + moreDigits) << fraction)
	// The conversion keeps the sum from being made one with what follows.
	return float64(size+power) - power
}

// halfOf is the pattern of a size that some half has, or of 65536, which comes out as the infinite one's.
func halfOf(size float64) uint16 {
	// Below the least normal half a pattern is how many of the least one there are.
	if size < 1.0/(1<<14) {
		return uint16(size * (1 << 24))
	}
	return uint16(Bits(size)>>moreDigits - moreExponent<<halfFraction)
}

// FromHalf: a pattern of 16 bits as a float. (P5.2)
func FromHalf(h uint16) float64 {
	size := halfSize(h &^ halfSign)
	if h&halfSign != 0 {
		return -size
	}
	return size
}

// halfSize is the float of a pattern without the sign bit.
func halfSize(h uint16) float64 {
	switch {
	case h > halfInfinite:
		return Float(noNumber)
	case h == halfInfinite:
		return Float(infinite)
	case h>>halfFraction == 0:
		return float64(h) / (1 << 24)
	}
	return Float(uint64(h)<<moreDigits + moreExponent<<fraction)
}
