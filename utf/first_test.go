package utf_test

import (
	"strings"
	"testing"
	"unicode/utf8"

	"crucible/utf"
)

// P9.1: the chapter's examples, and what is like them.
func TestBadKnown(t *testing.T) {
	for s, want := range map[string]int{
		"é": 2, "a\xc3": 1, "\xc0\x80": 0, "\xed\xa0\x80": 0, "\xf4\x90\x80\x80": 0, "": 0,
		"\xf0\x9f\x98\x80\xe2\x82": 4, "\x00\x7f\xff": 2,
		// Cut off within an encoding, at each of its bytes.
		"\xc3": 0, "ab\xe2": 2, "ab\xe2\x82": 2, "\xf0": 0, "\xf0\x9f": 0, "\xf0\x9f\x98": 0, "é\xf0\x9f\x98": 2,
		// Another byte than 10xxxxxx within an encoding.
		"\xc3a": 0, "\xe2a\xac": 0, "\xe2\x82a": 0, "\xf0\x9f\x98\xc0": 0, "\xf0\x9fa\x80": 0, "\xf0a\x98\x80": 0, "\xc3\xff": 0, "\xc3\x40": 0, "\xc3\xc3\xa9": 0,
		// Not the shortest: each greatest one, and the least that is.
		"\xc1\xbf": 0, "\xc2\x80": 2, "\xe0\x80\x80": 0, "\xe0\x9f\xbf": 0, "\xe0\xa0\x80": 3, "\xf0\x80\x80\x80": 0, "\xf0\x8f\xbf\xbf": 0, "\xf0\x90\x80\x80": 4,
		// Surrogates, and their neighbours; a pair of them too.
		"\xed\x9f\xbf": 3, "\xed\xaf\xbf": 0, "\xed\xb0\x80": 0, "\xed\xbf\xbf": 0, "\xee\x80\x80": 3, "\xed\xa0\xbd\xed\xb8\x80": 0, "a\xed\xa0\xbd\xed\xb8\x80": 1,
		// Above 1114111.
		"\xf4\x8f\xbf\xbf": 4, "\xf4\xbf\xbf\xbf": 0, "\xf5\x80\x80\x80": 0, "\xf7\xbf\xbf\xbf": 0, "a\xf7\xbf\xbf\xbf": 1,
		// Bytes that begin nothing, five and six of them too.
		"\x80": 0, "\xbf": 0, "\xfe": 0, "\xff": 0, "\xf8\x88\x80\x80\x80": 0, "\xfc\x84\x80\x80\x80\x80": 0, "abc\x80abc": 3, "é\xa9": 2,
		// The first of several.
		"a\xffb\xffc": 1, "\xff\xff": 0,
	} {
		if got := utf.Bad(s); got != want {
			t.Errorf("Bad(% x) = %d, want %d", s, got, want)
		}
	}
}

// P9.2: the chapter's examples.
func TestFirstKnown(t *testing.T) {
	firstIs(t, "é", 0, 233, 2)
	firstIs(t, "é", 1, 0, 0)
	firstIs(t, "é", 2, 0, 0)
	firstIs(t, "é", -1, 0, 0)
	firstIs(t, "\xc3\xa9a", 2, 97, 1)
	firstIs(t, "\xffa", 1, 97, 1)
}

// P9.2: every code point, alone, with others about it, and cut off at each of its bytes.
func TestFirstEveryPoint(t *testing.T) {
	for s, r := range everyPoint() {
		if got, n, ok := utf.First(s, 0); got != r || n != len(s) || !ok {
			t.Fatalf("First(% x, 0) = %d, %d, %v", s, got, n, ok)
		}
		if got, n, ok := utf.First("\xe2"+s+"\x80", 1); got != r || n != len(s) || !ok {
			t.Fatalf("First(e2 % x 80, 1) = %d, %d, %v", s, got, n, ok)
		}
		for n := range len(s) {
			if utf.Bad(s[:n]) != 0 {
				t.Fatalf("Bad(% x) = %d", s[:n], utf.Bad(s[:n]))
			}
		}
		if utf.Bad(s) != len(s) || utf.Bad(s+s+"\x80") != 2*len(s) {
			t.Fatalf("Bad(% x) = %d, with itself and 80 behind %d", s, utf.Bad(s), utf.Bad(s+s+"\x80"))
		}
	}
}

// P9.1, P9.2: every string of up to three bytes, held against the language's own reading.
func TestEveryShortString(t *testing.T) {
	if testing.Short() {
		t.Skip()
	}
	for n := range 1 << 24 {
		b := [3]byte{byte(n >> 16), byte(n >> 8), byte(n)}
		s := string(b[:])
		want, size := utf8.DecodeRuneInString(s)
		if want == utf8.RuneError && size == 1 {
			want, size = 0, 0
		}
		if r, n, ok := utf.First(s, 0); r != want || n != size || ok != (size > 0) {
			t.Fatalf("First(% x, 0) = %d, %d, %v", s, r, n, ok)
		}
	}
	for n := range 1 << 16 {
		s := string([]byte{byte(n >> 8), byte(n)})
		for _, s := range []string{s, s[1:]} {
			if (utf.Bad(s) == len(s)) != utf8.ValidString(s) {
				t.Fatalf("Bad(% x) = %d", s, utf.Bad(s))
			}
		}
	}
}

// P9.1, P9.2: four bytes: every first two, and behind them those at which something turns.
func TestFourBytes(t *testing.T) {
	const turns = "\x00\x3f\x40\x7f\x80\x81\x8f\x90\xaa\xbe\xbf\xc0\xc1\xff"
	for n := range 1 << 16 {
		for i := range len(turns) {
			for j := range len(turns) {
				s := string([]byte{byte(n >> 8), byte(n), turns[i], turns[j]})
				want, size := utf8.DecodeRuneInString(s)
				if want == utf8.RuneError && size == 1 {
					want, size = 0, 0
				}
				if r, n, ok := utf.First(s, 0); r != want || n != size || ok != (size > 0) {
					t.Fatalf("First(% x, 0) = %d, %d, %v", s, r, n, ok)
				}
			}
		}
	}
}

// P9.1, P9.2: any strings, at every place and beyond.
func TestFirstEverywhere(t *testing.T) {
	p, r := everyPoint(), rule{11}
	for range 20000 {
		s := r.anyString(8)
		for at := -2; at <= len(s)+2; at++ {
			want, n := p.first(s, at)
			firstIs(t, s, at, want, n)
		}
		if _, _, end := p.steps(s); utf.Bad(s) != end {
			t.Errorf("Bad(% x) = %d, want %d", s, utf.Bad(s), end)
		}
	}
}

// P9.2: places far away.
func TestFirstFarAway(t *testing.T) {
	for _, s := range []string{"", "a", "é", "😀", strings.Repeat("😀", 1000), "\xff"} {
		for _, at := range []int{least, least + 1, -1 << 32, -1 << 31, -4, -1, len(s), len(s) + 1, 1 << 31, 1 << 32, 1 << 62, most - 3, most - 1, most} {
			firstIs(t, s, at, 0, 0)
		}
	}
}
