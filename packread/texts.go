package packread

import (
	"strings"

	"crucible/api"
	"crucible/utf"
)

// text reads so many bytes, which must be one. A wrong byte is told ahead of the end of all bytes.
func (r *reader) text(h head) (api.Value, error) {
	there := r.s[r.at:]
	if h.n < uint64(len(there)) {
		there = there[:h.n]
	}
	good := utf.Bad(there)
	if good < len(there) {
		good += cutEncoding(there[good:], h.n-uint64(good))
		return api.Value{}, wrongAt(r.at + good)
	}
	s, err := r.take(h.n)
	return api.Value{Kind: api.VText, Text: strings.Clone(s)}, err
}

// cutEncoding is with how many bytes of s, in which no encoding ends, one begins for which there is room.
func cutEncoding(s string, room uint64) int {
	for n := range len(s) {
		size := reaches(s[:n+1])
		if size == 0 || uint64(size) > room {
			return n
		}
	}
	return len(s)
}

// reaches is the length of the encodings that begin so; 0, if there are none. A form that is too long for its number is kept clear of by the greatest bytes, if by any; surrogates and what lies above all code points by the least.
func reaches(begun string) int {
	_, least, _ := utf.First(begun+"\x80\x80\x80", 0)
	_, greatest, _ := utf.First(begun+"\xbf\xbf\xbf", 0)
	return max(least, greatest)
}
