package ecma_test

import (
	"math"
	"strconv"
	"strings"
	"testing"

	"crucible/api"
	"crucible/ecma"
	"crucible/shortest"
)

// wantShow asks with each sign, of a pattern that is not 0.
func wantShow(t *testing.T, x uint64, want string) {
	t.Helper()
	if got := ecma.Show(x); got != want {
		t.Errorf("Show(%#x) = %q, want %q", x, got, want)
	}
	if got := ecma.Show(x + sign); got != "-"+want {
		t.Errorf("Show(%#x) = %q, want %q", x+sign, got, "-"+want)
	}
}

// P8.2 at what the document names, and at what follows by hand.
func TestKnownShow(t *testing.T) {
	for _, c := range []struct {
		x    uint64
		want string
	}{
		{0x3ff8000000000000, "1.5"}, {infinite, "Infinity"},
		{1, "5e-324"}, {0x7fefffffffffffff, "1.7976931348623157e+308"}, {0x444b1ae4d6e2ef50, "1e+21"}, {0x4415af1d78b58c40, "100000000000000000000"}, {0x3fb999999999999a, "0.1"},
		{0x3ff0000000000000, "1"}, {0x4024000000000000, "10"}, {0x4059000000000000, "100"}, {0x4340000000000000, "9007199254740992"}, {0x3fd5555555555555, "0.3333333333333333"},
		{0x444b1ae4d6e2ef4f, "999999999999999900000"}, {0x444b1ae4d6e2ef51, "1.0000000000000001e+21"}, {0x44b52d02c7e14af6, "1e+23"}, {0x4480f0cf064dd592, "1e+22"},
		{0x3eb0c6f7a0b5ed8d, "0.000001"}, {0x3eb0c6f7a0b5ed8c, "9.999999999999997e-7"}, {0x3eb0c6f7a0b5ed8e, "0.0000010000000000000002"}, {0x3e7ad7f29abcaf48, "1e-7"},
		{2, "1e-323"}, {0x000fffffffffffff, "2.225073858507201e-308"}, {0x0010000000000000, "2.2250738585072014e-308"}, {0x7feffffffffffffe, "1.7976931348623155e+308"},
	} {
		wantShow(t, c.x, c.want)
	}
	for _, x := range []uint64{0, sign} {
		if got := ecma.Show(x); got != "0" {
			t.Errorf("Show(%#x) = %q", x, got)
		}
	}
}

// P8.2: all that are no number, whatever their sign and fraction.
func TestShowNoNumber(t *testing.T) {
	fractions := []uint64{1, 2, 1<<51 - 1, 1 << 51, 1<<51 + 1, 1<<52 - 2, 1<<52 - 1}
	r := rule{7}
	for range 300 {
		fractions = append(fractions, 1+r.next()%(1<<52-1))
	}
	for _, f := range fractions {
		for _, x := range []uint64{infinite + f, sign + infinite + f} {
			if got := ecma.Show(x); got != "NaN" {
				t.Errorf("Show(%#x) = %q", x, got)
			}
		}
	}
}

// P8.2: what Layout tells of shortest.Digits.
func TestShowIsLayout(t *testing.T) {
	for _, x := range some() {
		if x == 0 {
			continue
		}
		d, _ := shortest.Digits(x)
		want, ok := ecma.Layout(api.Digits{Text: d.Text, Point: d.Point})
		if !ok {
			t.Fatalf("Layout(%v): false", d)
		}
		wantShow(t, x, want)
		if byWords := byWords(d.Text, d.Point); want != byWords {
			t.Errorf("Show(%#x) = %q, want %q", x, want, byWords)
		}
	}
}

// asECMAScript is how the language's own library tells a float above 0, turned into ECMAScript's way.
func asECMAScript(f float64) string {
	if 1e-6 <= f && f < 1e21 {
		return strconv.FormatFloat(f, 'f', -1, 64)
	}
	text, power, _ := strings.Cut(strconv.FormatFloat(f, 'e', -1, 64), "e")
	return text + "e" + power[:1] + strings.TrimLeft(power[1:], "0")
}

// P8.2, P0.6, held against the language's own library.
func TestShowAsTheLanguage(t *testing.T) {
	r := rule{11}
	for i := range 20000 {
		x := r.next() % infinite
		switch i % 4 {
		case 0:
			x &^= 1<<(r.next()%53) - 1
		case 1:
			x = math.Float64bits(float64(r.next() >> r.below(64)))
		case 2:
			x = uint64(0x3fd+r.below(80)-40)<<52 + r.next()%(1<<52)
		}
		if x > 0 {
			wantShow(t, x, asECMAScript(math.Float64frombits(x)))
		}
	}
}
