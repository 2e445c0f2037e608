package quot

import (
	"strings"

	"crucible/api"
	"crucible/nat"
)

const (
	groupDigits = 9
	groupTen    = 1000000000
	// leafDigits is the length up to which digits are taken off, or read, group by group: all at once that would take minutes at api.MaxLimbs limbs.
	leafDigits = 64 * groupDigits
)

// Digits: in decimal. (P2.4)
func Digits(a api.Nat) string {
	text := make([]byte, room(nat.Len(a)))
	tell(text, a, tens(len(text)))
	digits := strings.TrimLeft(string(text), "0")
	if digits == "" {
		return "0"
	}
	return digits
}

// Read: the number that Digits tells so. (P2.4)
func Read(s string) (api.Nat, bool) {
	// A text with more digits than the limit has room for is refused ahead of all work with numbers.
	if !isNumber(s) || len(s) > room(api.MaxLimbs*limbBits) {
		return nil, false
	}
	a := number(s, tens(len(s)))
	if len(a) > api.MaxLimbs {
		return nil, false
	}
	return a, true
}

// Bytes: the number as bytes, the highest first. (P2.5)
func Bytes(a api.Nat) string {
	text := make([]byte, (nat.Len(a)+7)/8)
	for i := range len(text) {
		text[len(text)-1-i] = byte(a[i/4] >> (i % 4 * 8))
	}
	return string(text)
}

// FromBytes: the number of bytes. (P2.5)
func FromBytes(s string) (api.Nat, bool) {
	s = strings.TrimLeft(s, "\x00")
	if len(s) > api.MaxLimbs*4 {
		return nil, false
	}
	a := make(api.Nat, (len(s)+3)/4)
	for i := range len(s) {
		a[i/4] |= uint32(s[len(s)-1-i]) << (i % 4 * 8)
	}
	return a, true
}

// room is at least the number of digits of a number with so many bits: a bit makes a little less than 0.30103 digits.
func room(bits int) int {
	return bits*30103/100000 + 1
}

// tens answers the powers of ten by which a number of so many digits is cut in halves, those in halves again, down to leafDigits.
func tens(digits int) []api.Nat {
	if digits <= leafDigits {
		return nil
	}
	power, _ := Pow(10, leafDigits)
	powers := []api.Nat{power}
	for size := 2 * leafDigits; size < digits; size *= 2 {
		power = nat.Mul(power, power)
		powers = append(powers, power)
	}
	return powers
}

// tell fills text with the digits of a, and with noughts ahead of them where there is more room. powers are those of tens, as far as text is long or farther.
func tell(text []byte, a api.Nat, powers []api.Nat) {
	if len(powers) == 0 {
		next := lowest(a)
		for i := range len(text) {
			text[len(text)-1-i] = next()
		}
		return
	}
	last := len(powers) - 1
	at := max(len(text)-leafDigits<<last, 0)
	high, low, _ := Div(a, powers[last])
	tell(text[:at], high, powers[:last])
	tell(text[at:], low, powers[:last])
}

// lowest answers a function that takes the lowest digit off a with every call, and keeps what is left.
func lowest(a api.Nat) func() byte {
	var group uint32
	count := 0
	return func() byte {
		if count == 0 {
			a, group, _ = nat.Small(a, groupTen)
			count = groupDigits
		}
		digit := byte('0' + group%10)
		group /= 10
		count--
		return digit
	}
}

// isNumber: does Digits tell some number so?
func isNumber(s string) bool {
	if s == "" || s[0] == '0' && s != "0" {
		return false
	}
	for i := range len(s) {
		if s[i] < '0' || s[i] > '9' {
			return false
		}
	}
	return true
}

// number reads digits, noughts ahead of them or not. powers are those of tens, as far as s is long or farther.
func number(s string, powers []api.Nat) api.Nat {
	if len(powers) == 0 {
		return leaf(s)
	}
	last := len(powers) - 1
	at := max(len(s)-leafDigits<<last, 0)
	high, low := number(s[:at], powers[:last]), number(s[at:], powers[:last])
	return nat.Add(nat.Mul(high, powers[last]), low)
}

// leaf reads digits group by group, a short group first.
func leaf(s string) api.Nat {
	var a api.Nat
	for len(s) > 0 {
		size := (len(s)-1)%groupDigits + 1
		var group uint32
		for i := range size {
			group = group*10 + uint32(s[i]-'0')
		}
		a = nat.Add(nat.Mul(a, api.Nat{groupTen}), api.Nat{group})
		s = s[size:]
	}
	return a
}
