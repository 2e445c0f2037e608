package jsonscan

import (
	"strings"

	"crucible/utf"
)

// letters are those that may stand behind a backslash, but u.
const letters = `"\/bfnrt`

// literal is where one stands that has not ended.
type literal struct {
	isKey bool
	// begun are the bytes of an encoding that has not ended.
	begun string
	// left is how many digits are still to come behind \u, firstHalf whether they are of the first half of a pair.
	left      int
	firstHalf bool
}

func hexDigit(b byte) bool { return digit(b) || b >= 'a' && b <= 'f' || b >= 'A' && b <= 'F' }

// quoted takes the quote with which a literal begins.
func (s *Scanner) quoted(isKey bool) step {
	s.literal.isKey = isKey
	return s.piece
}

func (s *Scanner) unquoted() step {
	if s.literal.isKey {
		return s.colon
	}
	return s.mayEnd(s.behind)
}

// piece: a piece of a literal may begin, or the literal end.
func (s *Scanner) piece(b byte) step {
	switch {
	case b == '"':
		return s.unquoted()
	case b == '\\':
		return s.backslash
	case b < 32:
		return nil
	case b < 128:
		return s.piece
	}
	return s.encoding(b)
}

// encoding: a byte of one.
func (s *Scanner) encoding(b byte) step {
	begun := s.literal.begun + string([]byte{b})
	n := reaches(begun)
	if n == 0 {
		return nil
	}
	if n > len(begun) {
		s.literal.begun = begun
		return s.encoding
	}
	s.literal.begun = ""
	return s.piece
}

// reaches is the length of the encodings that begin so; 0, if there are none. If a form that is too long for its number can be helped, then by the greatest bytes; if surrogates and what lies above all code points can be kept clear of, then by the least.
func reaches(begun string) int {
	_, least, _ := utf.First(begun+"\x80\x80\x80", 0)
	_, greatest, _ := utf.First(begun+"\xbf\xbf\xbf", 0)
	return max(least, greatest)
}

func (s *Scanner) backslash(b byte) step {
	switch {
	case b == 'u':
		return s.unit
	case strings.IndexByte(letters, b) >= 0:
		return s.piece
	}
	return nil
}

// unit: the first of four digits, which are not the second half of a pair.
func (s *Scanner) unit(b byte) step {
	switch {
	case b == 'd' || b == 'D':
		return s.behindD
	case hexDigit(b):
		return s.more(3, false)
	}
	return nil
}

// behindD: from 8 on they are halves of a pair, from c on the second one's.
func (s *Scanner) behindD(b byte) step {
	switch {
	case b >= '0' && b <= '7':
		return s.more(2, false)
	case b == '8' || b == '9' || b == 'a' || b == 'b' || b == 'A' || b == 'B':
		return s.more(2, true)
	}
	return nil
}

// more goes on to digits of any kind.
func (s *Scanner) more(left int, firstHalf bool) step {
	s.literal.left, s.literal.firstHalf = left, firstHalf
	return s.digitsLeft
}

func (s *Scanner) digitsLeft(b byte) step {
	if !hexDigit(b) {
		return nil
	}
	s.literal.left--
	switch {
	case s.literal.left > 0:
		return s.digitsLeft
	case s.literal.firstHalf:
		return s.secondHalf
	}
	return s.piece
}

// secondHalf: behind the first one nothing else may come.
func (s *Scanner) secondHalf(b byte) step {
	if b == '\\' {
		return s.secondU
	}
	return nil
}

func (s *Scanner) secondU(b byte) step {
	if b == 'u' {
		return s.secondD
	}
	return nil
}

func (s *Scanner) secondD(b byte) step {
	if b == 'd' || b == 'D' {
		return s.secondSpan
	}
	return nil
}

// secondSpan: the second halves are from dc00 to dfff.
func (s *Scanner) secondSpan(b byte) step {
	if b >= 'c' && b <= 'f' || b >= 'C' && b <= 'F' {
		return s.more(2, false)
	}
	return nil
}
