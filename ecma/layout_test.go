package ecma_test

import (
	"strings"
	"testing"

	"crucible/api"
	"crucible/decimal"
	"crucible/ecma"
)

// wantLayout asks with each sign.
func wantLayout(t *testing.T, text string, point int, want string) {
	t.Helper()
	if got, ok := ecma.Layout(api.Digits{Text: text, Point: point}); got != want || !ok {
		t.Errorf("Layout(%q, %d) = %q, %v, want %q", cut(text), point, cut(got), ok, cut(want))
	}
	if got, ok := ecma.Layout(api.Digits{Neg: true, Text: text, Point: point}); got != "-"+want || !ok {
		t.Errorf("Layout(-%q, %d) = %q, %v, want %q", cut(text), point, cut(got), ok, cut("-"+want))
	}
}

// P8.1 at what the document names, and at what follows by hand.
func TestKnownLayout(t *testing.T) {
	const long = "1234567890123456789012"
	for _, c := range []struct {
		text  string
		point int
		want  string
	}{
		{"1", 1, "1"}, {"12", 4, "1200"}, {"123", 2, "12.3"}, {"5", 21, "500000000000000000000"}, {"5", 22, "5e+21"},
		{"1", 0, "0.1"}, {"1", -5, "0.000001"}, {"1", -6, "1e-7"}, {"125", -6, "1.25e-7"},
		{long, 21, "123456789012345678901.2"}, {long, 22, "1.234567890123456789012e+21"}, {long, 23, "1.234567890123456789012e+22"},
		{"7", least, "7e-9223372036854775809"}, {"7", most, "7e+9223372036854775806"},
		// Point at the number of digits, and beside it.
		{"12", 2, "12"}, {"12", 3, "120"}, {"12", 1, "1.2"}, {"9", 2, "90"}, {"305", 3, "305"}, {"305", 4, "3050"}, {"305", 1, "3.05"},
		// As many digits as ever stand ahead of the point.
		{long[:21], 21, "123456789012345678901"}, {long[:20] + "9", 20, "12345678901234567890.9"}, {long[:19], 21, "123456789012345678900"}, {long[:21], 22, "1.23456789012345678901e+21"},
		{"51", 21, "510000000000000000000"}, {"51", 22, "5.1e+21"}, {"51", 23, "5.1e+22"},
		// Point about 0.
		{"15", 1, "1.5"}, {"15", 0, "0.15"}, {"15", -1, "0.015"}, {"15", -5, "0.0000015"}, {"15", -6, "1.5e-7"}, {"15", -7, "1.5e-8"}, {long, 0, "0." + long}, {long, -5, "0.00000" + long}, {long, -6, "1.234567890123456789012e-7"}, {"9", -5, "0.000009"}, {"9", -6, "9e-7"},
		// Powers of two and three digits, and the ends of int with more digits.
		{"1", 100, "1e+99"}, {"1", 101, "1e+100"}, {"17", 309, "1.7e+308"}, {"1", -8, "1e-9"}, {"1", -9, "1e-10"}, {"1", -98, "1e-99"}, {"1", -99, "1e-100"}, {"5", -323, "5e-324"},
		{"75", least, "7.5e-9223372036854775809"}, {"75", most, "7.5e+9223372036854775806"}, {"7", least + 1, "7e-9223372036854775808"}, {"7", least + 2, "7e-9223372036854775807"}, {"7", most - 1, "7e+9223372036854775805"}, {long, least, "1.234567890123456789012e-9223372036854775809"},
	} {
		wantLayout(t, c.text, c.point, c.want)
	}
}

// byWords lays out a number by the document's four cases, from the text with all its noughts.
func byWords(text string, n int) string {
	k := len(text)
	if k <= n && n <= 21 {
		return text + strings.Repeat("0", n-k)
	}
	if 0 < n && n <= 21 || -6 < n && n <= 0 {
		// The point moves through the text with noughts ahead.
		ahead := max(0, 1-n)
		text = strings.Repeat("0", ahead) + text
		return text[:n+ahead] + "." + text[n+ahead:]
	}
	power := n - 1
	sign := "+"
	if power < 0 {
		sign, power = "-", -power
	}
	digits := ""
	for ; power > 0; power /= 10 {
		digits = string(rune('0'+power%10)) + digits
	}
	if k > 1 {
		text = text[:1] + "." + text[1:]
	}
	return text + "e" + sign + digits
}

// P8.1 at every number of digits and every Point about the turns, and at others.
func TestLayoutByTheWords(t *testing.T) {
	r := rule{3}
	for k := 1; k <= 30; k++ {
		for n := -40; n <= 60; n++ {
			text := r.bare(k)
			wantLayout(t, text, n, byWords(text, n))
		}
		for range 50 {
			text, n := r.bare(k), int(r.next())>>(1+r.below(50))
			wantLayout(t, text, n, byWords(text, n))
		}
	}
	for _, k := range []int{100, 1000, 12345} {
		for n := -10; n <= 30; n++ {
			text := r.bare(k)
			wantLayout(t, text, n, byWords(text, n))
		}
	}
}

// P8.1: what is laid out is the number itself.
func TestLayoutIsTheNumber(t *testing.T) {
	r := rule{4}
	for range 3000 {
		d := api.Digits{Neg: r.below(2) == 0, Text: r.bare(1 + r.below(25)), Point: r.below(100) - 50}
		text, ok := ecma.Layout(d)
		if !ok || !isNumber(text) || strings.HasPrefix(text, "-") != d.Neg {
			t.Fatalf("Layout(%v) = %q, %v", d, text, ok)
		}
		if c, ok := decimal.Cmp(d, inDigits(text)); c != 0 || !ok {
			t.Errorf("Layout(%v) = %q, another number", d, text)
		}
	}
}

// P8.1, R2: no digits, a byte that is none, a 0 ahead, a 0 behind.
func TestLayoutNone(t *testing.T) {
	long := strings.Repeat("987", 500)
	texts := []string{"", "0", "00", "10", "01", "010", "100", "001", "1x", "x1", "x", "-1", "1.5", "1e5", "+1", " 1", "1 ", "1\x00", "١", "1١", "0" + long, long + "0", "0" + long + "0", "\xff", "1\xff1"}
	for c := range 256 {
		if '1' <= c && c <= '9' {
			continue
		}
		wrong := string([]byte{byte(c)})
		texts = append(texts, wrong, wrong+"1", "1"+wrong, wrong+long, long+wrong)
		if c != '0' {
			texts = append(texts, "1"+wrong+"2", long+wrong+long, "1"+wrong+wrong+"2")
		}
	}
	for _, text := range texts {
		for _, point := range []int{least, -6, -5, -1, 0, 1, 2, 3, 21, 22, most} {
			for _, neg := range []bool{false, true} {
				if got, ok := ecma.Layout(api.Digits{Neg: neg, Text: text, Point: point}); got != "" || ok {
					t.Errorf("Layout(%q, %d) = %q, %v, want none", cut(text), point, cut(got), ok)
				}
			}
		}
	}
	for _, text := range []string{"101", "1001", "9", "1" + strings.Repeat("0", 1000) + "1"} {
		if _, ok := ecma.Layout(api.Digits{Text: text, Point: 5}); !ok {
			t.Errorf("Layout(%q): false", cut(text))
		}
	}
}
