package jsonscan

func digit(b byte) bool { return b >= '0' && b <= '9' }

// number: the first byte of one.
func (s *Scanner) number(b byte) step {
	if b == '-' {
		return s.minus
	}
	return s.minus(b)
}

// minus: a digit must come, a nought by itself.
func (s *Scanner) minus(b byte) step {
	switch {
	case b == '0':
		return s.mayEnd(s.wholePart)
	case digit(b):
		return s.mayEnd(s.digits)
	}
	return nil
}

// digits: of the whole part any number may come.
func (s *Scanner) digits(b byte) step {
	if digit(b) {
		return s.mayEnd(s.digits)
	}
	return s.wholePart(b)
}

// wholePart: its digits have all come.
func (s *Scanner) wholePart(b byte) step {
	if b == '.' {
		return s.point
	}
	return s.decimals(b)
}

// point: a digit must come.
func (s *Scanner) point(b byte) step {
	if digit(b) {
		return s.mayEnd(s.fraction)
	}
	return nil
}

func (s *Scanner) fraction(b byte) step {
	if digit(b) {
		return s.mayEnd(s.fraction)
	}
	return s.decimals(b)
}

// decimals: all of them have come; an exponent may.
func (s *Scanner) decimals(b byte) step {
	if b == 'e' || b == 'E' {
		return s.exponent
	}
	return s.behind(b)
}

// exponent: a sign or a digit must come.
func (s *Scanner) exponent(b byte) step {
	if b == '+' || b == '-' {
		return s.sign
	}
	return s.sign(b)
}

// sign: a digit must come.
func (s *Scanner) sign(b byte) step {
	if digit(b) {
		return s.mayEnd(s.power)
	}
	return nil
}

func (s *Scanner) power(b byte) step {
	if digit(b) {
		return s.mayEnd(s.power)
	}
	return s.behind(b)
}
