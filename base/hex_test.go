package base_test

import (
	"encoding/hex"
	"strings"
	"testing"
)

// P11.1: the chapter's examples, and what is like them.
func TestHexKnown(t *testing.T) {
	hexIs(t, []byte{0, 255, 16}, "00ff10")
	hexIs(t, nil, "")
	hexIs(t, []byte{}, "")
	hexIs(t, []byte("Az"), "417a")
	hexIs(t, []byte{1, 35, 69, 103, 137, 171, 205, 239}, "0123456789abcdef")
	fromHexIs(t, "00ff10", []byte{0, 255, 16})
	fromHexIs(t, "", nil)
	fromHexIs(t, "fedcba9876543210", []byte{254, 220, 186, 152, 118, 84, 50, 16})
	for _, s := range []string{"0", "0F", "0x", "0 ", "000", "F0", "0x00", " 00", "00 ", "00\n", "\n", "-1", "+1", "é", "0é0", "00:11", "AB", "aB", "Ab", "gg", "0g", "g0", "00\x00\x00"} {
		fromHexFails(t, s)
	}
}

// P11.1: each byte by itself and between others, the high four bits first.
func TestHexEveryByte(t *testing.T) {
	for n := range 256 {
		b := byte(n)
		hexIs(t, []byte{b}, hexOf([]byte{b}))
		hexIs(t, []byte{1, b, 254}, "01"+hexOf([]byte{b})+"fe")
		fromHexIs(t, hexOf([]byte{b}), []byte{b})
		fromHexIs(t, "01"+hexOf([]byte{b})+"fe", []byte{1, b, 254})
	}
}

// P11.1: every text of up to two bytes.
func TestFromHexShort(t *testing.T) {
	good := 0
	for n := range 1 << 16 {
		if t.Failed() {
			break
		}
		s := string([]byte{byte(n >> 8), byte(n)})
		fromHexFails(t, s[1:])
		want, ok := hexRead(s)
		if !ok {
			fromHexFails(t, s)
			continue
		}
		good++
		fromHexIs(t, s, want)
	}
	if good != 256 {
		t.Errorf("%d texts of two bytes are read", good)
	}
}

// P11.1: every byte that is no digit, at each place of a text.
func TestFromHexWrongByte(t *testing.T) {
	for n := range 256 {
		if isDigit(byte(n)) {
			continue
		}
		for at := range 6 {
			s := []byte("09afc3")
			s[at] = byte(n)
			fromHexFails(t, string(s))
		}
	}
}

// P11.1: odd numbers of digits.
func TestFromHexOdd(t *testing.T) {
	for n := range 40 {
		s := strings.Repeat("a7", n)
		fromHexIs(t, s, []byte(strings.Repeat("\xa7", n)))
		fromHexFails(t, s+"0")
		fromHexFails(t, "0"+s)
	}
}

// P11.1: any list and any text, held against the language's own.
func TestHexAny(t *testing.T) {
	r := rule{1}
	good := 0
	for range 50000 {
		if t.Failed() {
			break
		}
		b := r.list(20)
		hexIs(t, b, hex.EncodeToString(b))
		hexIs(t, b, hexOf(b))
		s := r.text(allDigits, 20)
		want, ok := hexRead(s)
		if !ok {
			fromHexFails(t, s)
			continue
		}
		good++
		fromHexIs(t, s, want)
	}
	if good < 10000 {
		t.Errorf("only %d texts are read", good)
	}
}
