package escape

import "strings"

const (
	quote     = '"'
	backslash = '\\'
	hexDigits = "0123456789abcdef"
)

// letters are the bytes that have one of their own, behind a backslash, and what it says.
var letters = [...]struct{ letter, says byte }{
	{quote, quote}, {backslash, backslash}, {'/', '/'}, {'b', 8}, {'f', 12}, {'n', 10}, {'r', 13}, {'t', 9},
}

func saidBy(letter byte) (says byte, ok bool) {
	for _, l := range letters {
		if l.letter == letter {
			return l.says, true
		}
	}
	return 0, false
}

func letterOf(says byte) (letter byte, ok bool) {
	for _, l := range letters {
		if l.says == says {
			return l.letter, true
		}
	}
	return 0, false
}

// span is the bytes from the first to the last one.
type span struct{ first, last byte }

func only(b byte) span { return span{b, b} }

// in: does the byte lie in one of the spans?
func in(b byte, spans ...span) bool {
	for _, s := range spans {
		if s.first <= b && b <= s.last {
			return true
		}
	}
	return false
}

// writeByte says a byte of a text in the one form.
func writeByte(out *strings.Builder, b byte) {
	// A slash has a letter, but stands for itself.
	if !in(b, span{0, 31}, only(quote), only(backslash)) {
		out.WriteByte(b)
		return
	}
	out.WriteByte(backslash)
	if letter, ok := letterOf(b); ok {
		out.WriteByte(letter)
		return
	}
	out.WriteString("u00")
	out.WriteByte(hexDigits[b>>4])
	out.WriteByte(hexDigits[b&15])
}
