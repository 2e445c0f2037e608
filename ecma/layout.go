package ecma

import (
	"strconv"
	"strings"
)

func isDigit(c byte) bool { return '0' <= c && c <= '9' }

// isBare: is it one digit or more and nothing else, the first and the last one no nought?
func isBare(text string) bool {
	if text == "" || text[0] == '0' || text[len(text)-1] == '0' {
		return false
	}
	for i := range len(text) {
		if !isDigit(text[i]) {
			return false
		}
	}
	return true
}

// writeSize lays out 0.digits times 10 to the power of n.
func writeSize(out *strings.Builder, digits string, n int) {
	const longest, least = 21, -6 // where ECMAScript turns to powers
	k := len(digits)
	switch {
	case k <= n && n <= longest:
		out.WriteString(digits)
		writeNoughts(out, n-k)
	case 0 < n && n <= longest:
		out.WriteString(digits[:n])
		out.WriteByte('.')
		out.WriteString(digits[n:])
	case least < n && n <= 0:
		out.WriteString("0.")
		writeNoughts(out, -n)
		out.WriteString(digits)
	default:
		out.WriteByte(digits[0])
		if k > 1 {
			out.WriteByte('.')
			out.WriteString(digits[1:])
		}
		writePower(out, n)
	}
}

func writeNoughts(out *strings.Builder, count int) {
	for range count {
		out.WriteByte('0')
	}
}

// writePower tells n - 1, which may be no int: its size is one of 64 bits without a sign.
func writePower(out *strings.Builder, n int) {
	sign, size := "e+", uint64(n)-1
	if n < 1 {
		sign, size = "e-", 1-uint64(n)
	}
	out.WriteString(sign)
	out.WriteString(strconv.FormatUint(size, 10))
}
