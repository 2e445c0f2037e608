package cborread

import "crucible/utf"

// text takes so many bytes, which must be one. A wrong byte is told ahead of the end of all bytes.
func (r *reader) text(n uint64) (string, error) {
	there := r.s[r.at:]
	if n < uint64(len(there)) {
		there = there[:n]
	}
	good := utf.Bad(there)
	if good < len(there) {
		good += cutEncoding(there[good:], n-uint64(good))
		return "", wrongAt(r.at + good)
	}
	return r.bytes(n)
}

// cutEncoding is with how many bytes of s, in which no encoding ends, one begins for which there is room.
func cutEncoding(s string, room uint64) int {
	for n := range len(s) {
		size := reaches(s[:n+1])
		if size == 0 || uint64(size) > room {
			return n
		}
	}
	return len(s)
}

// reaches is the length of the encodings that begin so; 0, if there are none. A form that is too long for its number is kept clear of by the greatest bytes, if by any; surrogates and what lies above all code points by the least.
func reaches(begun string) int {
	_, least, _ := utf.First(begun+"\x80\x80\x80", 0)
	_, greatest, _ := utf.First(begun+"\xbf\xbf\xbf", 0)
	return max(least, greatest)
}
