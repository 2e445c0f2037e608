package base_test

import (
	"encoding/base64"
	"strings"
	"testing"
)

// P11.2: the chapter's examples, and what is like them.
func TestBase64Known(t *testing.T) {
	for b, want := range map[string]string{
		"f": "Zg", "fo": "Zm8", "foo": "Zm9v", "foob": "Zm9vYg", "fooba": "Zm9vYmE", "foobar": "Zm9vYmFy", "": "",
		"\xfb\xff\xbf": "-_-_", "\xff": "_w", "\xff\xff": "__8", "\xff\xff\xff": "____", "\x00": "AA", "\x00\x00": "AAA", "\x00\x00\x00": "AAAA",
	} {
		base64Is(t, []byte(b), want)
		fromBase64Is(t, want, []byte(b))
	}
	base64Is(t, nil, "")
	for _, s := range []string{"Zm9", "Zg==", "Z", "+/+/", "Zm9v\n", "Zg=", "Zm8=", "=", "==", "===", "====", "Zm9v=", "Zm9v====", "Zm\n9v", " Zm9v", "Zm9v ", "\n", "-", "_", "Zé", "Zm9vé", "++", "//", "AA/A", "A+AA"} {
		fromBase64Fails(t, s)
	}
}

// P11.2: each byte by itself, and at each place among three.
func TestBase64EveryByte(t *testing.T) {
	for n := range 256 {
		x := byte(n)
		for _, b := range [][]byte{{x}, {x, 0}, {0, x}, {x, 170, 85}, {170, x, 85}, {170, 85, x}, {x, x, x, x}} {
			base64Is(t, b, base64Of(b))
			fromBase64Is(t, base64Of(b), b)
		}
	}
}

// P11.2: each list of two bytes, and many of three.
func TestBase64ManyBytes(t *testing.T) {
	for n := range 1 << 16 {
		if t.Failed() {
			break
		}
		b := []byte{byte(n >> 8), byte(n)}
		want := base64.RawURLEncoding.EncodeToString(b)
		base64Is(t, b, want)
		fromBase64Is(t, want, b)
	}
	for n := 0; n < 1<<24 && !t.Failed(); n += 37 {
		b := []byte{byte(n >> 16), byte(n >> 8), byte(n)}
		want := base64.RawURLEncoding.EncodeToString(b)
		base64Is(t, b, want)
		fromBase64Is(t, want, b)
	}
}

// P11.2: of n bytes 8n/6 letters, rounded up; texts of every other length are none.
func TestBase64Lengths(t *testing.T) {
	lengths := map[int]bool{}
	for n := range 60 {
		for _, x := range []byte{0, 85, 255} {
			b := []byte(strings.Repeat(string([]byte{x}), n))
			base64Is(t, b, base64Of(b))
			fromBase64Is(t, base64Of(b), b)
			if len(base64Of(b)) != (8*n+5)/6 {
				t.Errorf("%d bytes have %d letters", n, len(base64Of(b)))
			}
		}
		lengths[(8*n+5)/6] = true
	}
	for n := range 76 {
		s := strings.Repeat("A", n)
		if lengths[n] == (n%4 == 1) {
			t.Errorf("%d letters", n)
		}
		if lengths[n] {
			fromBase64Is(t, s, make([]byte, n*6/8))
			continue
		}
		fromBase64Fails(t, s)
		fromBase64Fails(t, s[:n-1]+"=")
		fromBase64Fails(t, s[:n-1]+"_")
	}
}

// P11.2: every text of up to two bytes.
func TestFromBase64Short(t *testing.T) {
	good := 0
	for n := range 1 << 16 {
		if t.Failed() {
			break
		}
		s := string([]byte{byte(n >> 8), byte(n)})
		fromBase64Fails(t, s[1:])
		want, ok := base64Read(s)
		if !ok {
			fromBase64Fails(t, s)
			continue
		}
		good++
		fromBase64Is(t, s, want)
	}
	if good != 256 {
		t.Errorf("%d texts of two bytes are read", good)
	}
}

// P11.2: every byte that is no letter, at each place of texts of each length.
func TestFromBase64WrongByte(t *testing.T) {
	for length := range 9 {
		for at := range length {
			for n := range 256 {
				if isLetter(byte(n)) {
					continue
				}
				s := []byte(strings.Repeat("A", length))
				s[at] = byte(n)
				fromBase64Fails(t, string(s))
			}
		}
	}
}

// P11.2: bits that are left over, four behind two letters and two behind three, must be 0; whatever stands ahead.
func TestFromBase64LeftOver(t *testing.T) {
	for _, ahead := range []string{"", "AAAA", "____", "Zm9vYmFy"} {
		good := map[int]int{}
		for n := range 64 {
			for _, first := range []string{"A", "Z", "_", "AA", "Zm", "__", "A_"} {
				s := ahead + first + string([]byte{letterOf(n)})
				left := 16
				if len(first) == 2 {
					left = 4
				}
				if n%left != 0 {
					fromBase64Fails(t, s)
					continue
				}
				good[len(first)]++
				want, _ := base64Read(s)
				fromBase64Is(t, s, want)
			}
		}
		if good[1] != 3*4 || good[2] != 4*16 {
			t.Errorf("behind %q %v are read", ahead, good)
		}
	}
	// Behind four letters nothing is left over.
	for n := range 64 {
		fromBase64Is(t, "AAA"+string([]byte{letterOf(n)}), []byte{0, 0, byte(n)})
	}
}

// P11.2: a group that would be the last, or a wrong one, with more behind it.
func TestFromBase64NotAtEnd(t *testing.T) {
	for _, s := range []string{"Zg", "Zm8", "Zg==", "Zm8="} {
		fromBase64Fails(t, s+"\nZm9v")
		fromBase64Fails(t, s+"=Zm9v")
	}
	// Letters behind it make another group of it.
	fromBase64Is(t, "ZgZm9w", []byte{102, 6, 102, 247})
	fromBase64Fails(t, "ZgZm9v")
	fromBase64Fails(t, "Z===Zm9v")
	fromBase64Fails(t, "Zm9vZ")
}

// P11.2: any list and any text, held against the reference and the language's own.
func TestBase64Any(t *testing.T) {
	r := rule{3}
	good := 0
	strict := base64.RawURLEncoding.Strict()
	for range 50000 {
		if t.Failed() {
			break
		}
		b := r.list(16)
		base64Is(t, b, base64Of(b))
		base64Is(t, b, base64.RawURLEncoding.EncodeToString(b))
		s := r.text(allLetters, 12)
		if r.below(2) == 0 {
			s = r.text("AAQgw_", 12)
		}
		want, ok := base64Read(s)
		if !ok {
			fromBase64Fails(t, s)
			continue
		}
		good++
		fromBase64Is(t, s, want)
		if again, err := strict.DecodeString(s); err != nil || string(again) != string(want) {
			t.Errorf("%q is read otherwise by the language's own: %v, %v", s, again, err)
		}
	}
	if good < 10000 {
		t.Errorf("only %d texts are read", good)
	}
}
