package base_test

import (
	"fmt"
	"strings"
	"testing"

	"crucible/base"
)

// letterOf is the letter of base64url that has the number.
func letterOf(number int) byte {
	switch {
	case number < 26:
		return byte('A' + number)
	case number < 52:
		return byte('a' + number - 26)
	case number < 62:
		return byte('0' + number - 52)
	case number == 62:
		return '-'
	}
	return '_'
}

func isLetter(b byte) bool {
	for number := range 64 {
		if letterOf(number) == b {
			return true
		}
	}
	return false
}

func isDigit(b byte) bool { return b >= '0' && b <= '9' || b >= 'a' && b <= 'f' }

// bitsOf are the bits of the bytes, one behind the other, the highest of each byte first.
func bitsOf(b []byte) string {
	out := ""
	for _, x := range b {
		out += fmt.Sprintf("%08b", x)
	}
	return out
}

// base64Of is what Base64 tells, in the words of P11.2.
func base64Of(b []byte) string {
	bits := bitsOf(b)
	for len(bits)%6 != 0 {
		bits += "0"
	}
	var out []byte
	for ; bits != ""; bits = bits[6:] {
		number := 0
		fmt.Sscanf(bits[:6], "%b", &number)
		out = append(out, letterOf(number))
	}
	return string(out)
}

// hexOf is what Hex tells, in the words of P11.1.
func hexOf(b []byte) string {
	out := ""
	for _, x := range b {
		out += fmt.Sprintf("%x%x", x/16, x%16)
	}
	return out
}

// rule makes numbers that look like any, the same in each run.
type rule struct{ state uint64 }

func (r *rule) next() uint64 {
	r.state += 0x9e3779b97f4a7c15
	z := r.state
	z = (z ^ z>>30) * 0xbf58476d1ce4e5b9
	z = (z ^ z>>27) * 0x94d049bb133111eb
	return z ^ z>>31
}

func (r *rule) below(n int) int { return int(r.next() % uint64(n)) }

// list has fewer than n bytes, often such as lie where something turns.
func (r *rule) list(n int) []byte {
	out := make([]byte, r.below(n))
	edge := []byte{0, 1, 2, 3, 15, 16, 63, 64, 127, 128, 191, 192, 251, 252, 254, 255}
	for i := range out {
		out[i] = byte(r.next())
		if r.below(3) == 0 {
			out[i] = edge[r.below(len(edge))]
		}
	}
	return out
}

// text has fewer than n bytes, most of them from an alphabet, sometimes one of any kind.
func (r *rule) text(alphabet string, n int) string {
	out := make([]byte, r.below(n))
	for i := range out {
		out[i] = alphabet[r.below(len(alphabet))]
	}
	if len(out) > 0 && r.below(3) == 0 {
		out[r.below(len(out))] = byte(r.next())
	}
	return string(out)
}

const (
	allDigits  = "0123456789abcdef"
	allLetters = "ABCDEFGHIJKLMNOPQRSTUVWXYZabcdefghijklmnopqrstuvwxyz0123456789-_"
)

func hexIs(t *testing.T, b []byte, want string) {
	t.Helper()
	if got := base.Hex(b); got != want {
		t.Errorf("Hex(%v) = %q, want %q", b, got, want)
	}
}

func base64Is(t *testing.T, b []byte, want string) {
	t.Helper()
	if got := base.Base64(b); got != want {
		t.Errorf("Base64(%v) = %q, want %q", b, got, want)
	}
}

func fromHexIs(t *testing.T, s string, want []byte) {
	t.Helper()
	if got, ok := base.FromHex(s); string(got) != string(want) || !ok {
		t.Errorf("FromHex(%q) = %v, %v, want %v", s, got, ok, want)
	}
}

func fromBase64Is(t *testing.T, s string, want []byte) {
	t.Helper()
	if got, ok := base.FromBase64(s); string(got) != string(want) || !ok {
		t.Errorf("FromBase64(%q) = %v, %v, want %v", s, got, ok, want)
	}
}

func fromHexFails(t *testing.T, s string) {
	t.Helper()
	if got, ok := base.FromHex(s); len(got) != 0 || ok {
		t.Errorf("FromHex(%q) = %v, %v, though Hex tells it of none", s, got, ok)
	}
}

func fromBase64Fails(t *testing.T, s string) {
	t.Helper()
	if got, ok := base.FromBase64(s); len(got) != 0 || ok {
		t.Errorf("FromBase64(%q) = %v, %v, though Base64 tells it of none", s, got, ok)
	}
}

// hexRead is what FromHex answers, in the words of P11.1.
func hexRead(s string) ([]byte, bool) {
	if len(s)%2 != 0 {
		return nil, false
	}
	out := []byte{}
	for ; s != ""; s = s[2:] {
		if !isDigit(s[0]) || !isDigit(s[1]) {
			return nil, false
		}
		out = append(out, byte(16*strings.IndexByte(allDigits, s[0])+strings.IndexByte(allDigits, s[1])))
	}
	return out, true
}

// base64Read is what FromBase64 answers, in the words of P11.2.
func base64Read(s string) ([]byte, bool) {
	if len(s)%4 == 1 {
		return nil, false
	}
	bits := ""
	for i := range len(s) {
		if !isLetter(s[i]) {
			return nil, false
		}
		bits += fmt.Sprintf("%06b", strings.IndexByte(allLetters, s[i]))
	}
	out := []byte{}
	for ; len(bits) >= 8; bits = bits[8:] {
		x := 0
		fmt.Sscanf(bits[:8], "%b", &x)
		out = append(out, byte(x))
	}
	return out, !strings.Contains(bits, "1")
}
