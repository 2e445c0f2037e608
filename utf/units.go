package utf

// Where the two halves of surrogate pairs begin, and how many each are.
const (
	highs  rune = 55296
	lows   rune = 56320
	halves rune = 1024
)

func isHigh(r rune) bool { return r >= highs && r < highs+halves }

func isLow(r rune) bool { return r >= lows && r < lows+halves }

// split is the surrogate pair of a code point from 65536 on.
func split(r rune) (high, low rune) {
	return highs + (r-wide)/halves, lows + (r-wide)%halves
}

// join is the code point of the first unit, or of the first two, and how many they are; 0 where half a pair stands alone.
func join(l []uint16) (r rune, n int) {
	first := rune(l[0])
	if !isHigh(first) && !isLow(first) {
		return first, 1
	}
	if isLow(first) || len(l) < 2 || !isLow(rune(l[1])) {
		return 0, 0
	}
	return wide + (first-highs)*halves + rune(l[1]) - lows, 2
}

// weight is the code units of the step at a place as one number, the first one above the second, and how many bytes the step has. At the end it is below that of every step, and there are none.
func weight(s string, at int) (units int64, n int) {
	if at == len(s) {
		return -1, 0
	}
	r, n, ok := First(s, at)
	switch {
	case !ok:
		return int64(wide+rune(s[at])) << 16, 1
	case r < wide:
		return int64(r) << 16, n
	}
	high, low := split(r)
	return int64(high)<<16 | int64(low), n
}
