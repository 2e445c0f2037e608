package real

// Join: a complex number. (P5.5)
func Join(re, im float64) complex128 {
	return complex(re, im)
}

// Split: its parts. (P5.5)
func Split(c complex128) (re, im float64) {
	return real(c), imag(c)
}

// SameComplex: are both parts the same? (P5.5)
func SameComplex(a, b complex128) bool {
	// The language's own == would take 0 and -0 for alike, and no number for unlike itself.
	return Same(real(a), real(b)) && Same(imag(a), imag(b))
}

// Plus: the sum, part by part, in their order. (P5.6)
func Plus(l ...complex128) complex128 {
	var sum complex128
	for _, c := range l {
		sum += c
	}
	return sum
}

// Minus: the difference, part by part. (P5.6)
func Minus(a, b complex128) complex128 {
	return a - b
}

// Flip: the imaginary part with its sign turned. (P5.6)
func Flip(c complex128) complex128 {
	return complex(real(c), -imag(c))
}
