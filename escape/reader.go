package escape

import (
	"strings"

	"crucible/utf"
)

// reader takes a literal byte by byte, and no byte with which there is no literal any more: where one of its methods answers false, it stands at the first wrong byte, or at the end.
type reader struct {
	s    string
	at   int
	text strings.Builder
}

// take goes on behind the next byte, if that lies in one of the spans.
func (r *reader) take(spans ...span) bool {
	if r.at == len(r.s) || !in(r.s[r.at], spans...) {
		return false
	}
	r.at++
	return true
}

func (r *reader) literal() bool {
	if !r.take(only(quote)) {
		return false
	}
	for !r.take(only(quote)) {
		if !r.piece() {
			return false
		}
	}
	return true
}

// piece takes any piece; a quote does not stand here.
func (r *reader) piece() bool {
	switch {
	case !r.take(only(backslash)):
		return r.encoding()
	case r.take(only('u')):
		return r.units()
	}
	return r.letter()
}

func (r *reader) encoding() bool {
	_, n, ok := utf.First(r.s, r.at)
	if !ok {
		r.at += begun(r.s[r.at:])
		return false
	}
	if in(r.s[r.at], span{0, 31}) {
		return false
	}
	r.text.WriteString(r.s[r.at : r.at+n])
	r.at += n
	return true
}

// begun is how many bytes are there of an encoding that is cut off or goes wrong.
func begun(s string) int {
	n := 0
	for n < len(s) && begins(s[:n+1]) {
		n++
	}
	return n
}

// begins: can these bytes, which hold no whole encoding, be gone on with to one? If a form that is too long for its number can be helped, then by the greatest bytes; if surrogates and what lies above all code points can be kept clear of, then by the least.
func begins(s string) bool {
	_, _, least := utf.First(s+"\x80\x80\x80", 0)
	_, _, greatest := utf.First(s+"\xbf\xbf\xbf", 0)
	return least || greatest
}

func (r *reader) letter() bool {
	if r.at == len(r.s) {
		return false
	}
	says, ok := saidBy(r.s[r.at])
	if !ok {
		return false
	}
	r.text.WriteByte(says)
	r.at++
	return true
}

// units takes what stands behind \u: four digits, and where they are the first half of a pair the second half too.
func (r *reader) units() bool {
	half, ok := r.unit()
	if !ok {
		return false
	}
	units := []uint16{r.lastUnit()}
	if half {
		if !r.secondHalf() {
			return false
		}
		units = append(units, r.lastUnit())
	}
	text, _ := utf.FromUnits(units)
	r.text.WriteString(text)
	return true
}

// unit takes four digits that are no second half, as such does not stand by itself; half tells whether they are a first one.
func (r *reader) unit() (half, ok bool) {
	if !r.take(only('d'), only('D')) {
		return false, r.digit() && r.digit() && r.digit() && r.digit()
	}
	half = r.take(span{'8', '9'}, span{'a', 'b'}, span{'A', 'B'})
	if !half && !r.take(span{'0', '7'}) {
		return false, false
	}
	return half, r.digit() && r.digit()
}

func (r *reader) secondHalf() bool {
	return r.take(only(backslash)) && r.take(only('u')) &&
		r.take(only('d'), only('D')) && r.take(span{'c', 'f'}, span{'C', 'F'}) && r.digit() && r.digit()
}

func (r *reader) digit() bool {
	return r.take(span{'0', '9'}, span{'a', 'f'}, span{'A', 'F'})
}

// lastUnit is the number that the four digits right ahead tell.
func (r *reader) lastUnit() uint16 {
	unit := 0
	for i := r.at - 4; i < r.at; i++ {
		// The bit makes letters small, and is set in the other digits.
		unit = unit<<4 | strings.IndexByte(hexDigits, r.s[i]|0x20)
	}
	return uint16(unit)
}
