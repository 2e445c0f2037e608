package base_test

import (
	"bytes"
	"cmp"
	"slices"
	"testing"

	"crucible/base"
)

// P11.4: what is told is read back as the same bytes.
func TestReadBack(t *testing.T) {
	r := rule{11}
	for range 50000 {
		if t.Failed() {
			break
		}
		b := r.list(40)
		fromHexIs(t, base.Hex(b), b)
		fromBase64Is(t, base.Base64(b), b)
	}
}

// P11.1, P11.2: what is read is told as just that text.
func TestToldAgain(t *testing.T) {
	r := rule{13}
	read := [2]int{}
	for range 100000 {
		if t.Failed() {
			break
		}
		s := r.text(allDigits, 12)
		if b, ok := base.FromHex(s); ok {
			read[0]++
			hexIs(t, b, s)
		}
		s = r.text(allLetters, 12)
		if b, ok := base.FromBase64(s); ok {
			read[1]++
			base64Is(t, b, s)
		}
	}
	if read[0] < 20000 || read[1] < 20000 {
		t.Errorf("only %v texts are read", read)
	}
}

// P11.4: unlike bytes have unlike texts: all lists of up to two bytes, and lists that are nearly alike.
func TestUnlike(t *testing.T) {
	hex, letters := map[string]int{}, map[string]int{}
	lists := 0
	tell := func(b []byte) {
		lists++
		hex[base.Hex(b)]++
		letters[base.Base64(b)]++
	}
	tell(nil)
	for n := range 1 << 16 {
		if t.Failed() {
			break
		}
		tell([]byte{byte(n >> 8), byte(n)})
	}
	for n := range 1 << 8 {
		tell([]byte{byte(n)})
	}
	for n := 3; n < 200; n++ {
		tell(make([]byte, n))
	}
	if len(hex) != lists || len(letters) != lists {
		t.Errorf("%d lists have %d and %d texts", lists, len(hex), len(letters))
	}
	r := rule{15}
	for range 20000 {
		if t.Failed() {
			break
		}
		b := append(r.list(12), byte(r.next()))
		c := slices.Clone(b)
		c[r.below(len(c))] ^= 1 << r.below(8)
		if base.Hex(b) == base.Hex(c) || base.Base64(b) == base.Base64(c) {
			t.Errorf("%v and %v have one text", b, c)
		}
	}
}

// P11.4: the texts of two lists one behind the other.
func TestOneBehindTheOther(t *testing.T) {
	r := rule{17}
	apart := 0
	for range 50000 {
		if t.Failed() {
			break
		}
		a, b := r.list(14), r.list(14)
		both := slices.Concat(a, b)
		hexIs(t, both, base.Hex(a)+base.Hex(b))
		if len(a)%3 == 0 {
			base64Is(t, both, base.Base64(a)+base.Base64(b))
		} else if len(b) > 0 && base.Base64(both) != base.Base64(a)+base.Base64(b) {
			apart++
		}
	}
	if apart < 1000 {
		t.Errorf("only %d others are not one behind the other", apart)
	}
}

// P11.4: Hex's texts rise as the lists do.
func TestHexRises(t *testing.T) {
	r := rule{19}
	seen := [3]int{}
	for range 100000 {
		if t.Failed() {
			break
		}
		a, b := r.list(6), r.list(6)
		if r.below(2) == 0 {
			b = append(slices.Clone(a), r.list(3)...)
		}
		want := bytes.Compare(a, b)
		seen[want+1]++
		if got := cmp.Compare(base.Hex(a), base.Hex(b)); got != want {
			t.Errorf("%v and %v are told as %q and %q", a, b, base.Hex(a), base.Hex(b))
		}
	}
	if slices.Min(seen[:]) < 5000 {
		t.Errorf("below, the same and above: %v", seen)
	}
	for a := range 256 {
		for b := range 256 {
			x, y := base.Hex([]byte{byte(a)}), base.Hex([]byte{byte(b)})
			if cmp.Compare(x, y) != cmp.Compare(a, b) {
				t.Errorf("%d and %d are told as %q and %q", a, b, x, y)
			}
		}
	}
}
