package whole

import (
	"strings"

	"crucible/api"
	"crucible/nat"
	"crucible/quot"
)

// Show: in decimal. (P3.4)
func Show(x api.Int) string {
	if signOf(x) == below {
		return "-" + quot.Digits(x.Mag)
	}
	return quot.Digits(x.Mag)
}

// Read: the number that Show tells so. (P3.4)
func Read(s string) (api.Int, bool) {
	digits, under := strings.CutPrefix(s, "-")
	size, ok := quot.Read(digits)
	if !ok || under && len(size) == 0 {
		return api.Int{}, false
	}
	if under {
		return number(below, size), true
	}
	return number(above, size), true
}

// Twos: as n bytes in two's complement, the highest first. (P3.5)
func Twos(x api.Int, n int) (string, bool) {
	if n < 1 || n > api.MaxBytes {
		return "", false
	}
	// Below 0 the bytes are those of 0 less x, less 1, turned over; so both ends of the range are one length.
	size, s := x.Mag, signOf(x)
	if s == below {
		size, _ = nat.Sub(size, nat.From(1))
	}
	if nat.Len(size) > 8*n-1 {
		return "", false
	}
	text := make([]byte, n)
	bytes := quot.Bytes(size)
	copy(text[n-len(bytes):], bytes)
	if s == below {
		turnOver(text)
	}
	return string(text), true
}

// FromTwos: the number of such bytes. (P3.5)
func FromTwos(s string) api.Int {
	if s == "" || s[0] < 128 {
		return number(above, natural(s))
	}
	text := []byte(s)
	turnOver(text)
	return number(below, nat.Add(natural(string(text)), nat.From(1)))
}

func turnOver(text []byte) {
	for i := range len(text) {
		text[i] = ^text[i]
	}
}

// natural reads bytes of any length, piece by piece from the lowest on: quot.FromBytes has a limit, two's complement has none.
func natural(s string) api.Nat {
	const pieceBytes = 4 * api.MaxLimbs
	a := make(api.Nat, (len(s)+3)/4)
	for at := 0; s != ""; at += api.MaxLimbs {
		cut := max(len(s)-pieceBytes, 0)
		piece, _ := quot.FromBytes(s[cut:])
		copy(a[at:], piece)
		s = s[:cut]
	}
	return nat.Norm(a)
}
