package whole_test

import (
	"fmt"
	"math"
	"slices"
	"strings"
	"testing"

	"crucible/api"
	"crucible/quot"
	"crucible/whole"
)

// P3.4

func TestShow(t *testing.T) {
	for _, c := range []struct {
		x    api.Int
		want string
	}{
		{api.Int{}, "0"}, {api.Int{Neg: true}, "0"}, {api.Int{Neg: true, Mag: list{0, 0}}, "0"}, {api.Int{Mag: list{0}}, "0"}, {api.Int{Mag: list{5}}, "5"}, {api.Int{Neg: true, Mag: list{5}}, "-5"},
		{api.Int{Neg: true, Mag: list{5, 0, 0}}, "-5"}, {api.Int{Mag: list{10, 0}}, "10"}, {api.Int{Neg: true, Mag: list{10}}, "-10"}, {api.Int{Mag: list{0, 0, 1}}, "18446744073709551616"},
		{api.Int{Neg: true, Mag: list{0, high}}, "-9223372036854775808"}, {api.Int{Neg: true, Mag: list{0, 0, 0, 1}}, "-79228162514264337593543950336"},
	} {
		if got := whole.Show(c.x); got != c.want {
			t.Errorf("Show(%v) = %q, want %q", c.x, got, c.want)
		}
	}
	for _, x := range samples() {
		want := quot.Digits(x.Mag)
		if x.Neg && want != "0" {
			want = "-" + want
		}
		if got := whole.Show(x); got != want {
			t.Errorf("Show(%v) = %q, want %q", x, got, want)
		}
	}
}

func TestRead(t *testing.T) {
	for _, c := range []struct {
		s    string
		want api.Int
	}{
		{"0", api.Int{}}, {"1", api.Int{Mag: list{1}}}, {"-1", api.Int{Neg: true, Mag: list{1}}}, {"-5", api.Int{Neg: true, Mag: list{5}}}, {"-10", api.Int{Neg: true, Mag: list{10}}}, {"100", api.Int{Mag: list{100}}},
		{"4294967296", api.Int{Mag: list{0, 1}}}, {"-4294967295", api.Int{Neg: true, Mag: list{top}}}, {"-9223372036854775808", api.Int{Neg: true, Mag: list{0, high}}},
		{"-18446744073709551616", api.Int{Neg: true, Mag: list{0, 0, 1}}}, {"79228162514264337593543950336", api.Int{Mag: list{0, 0, 0, 1}}},
	} {
		got, ok := whole.Read(c.s)
		wantInt(t, fmt.Sprintf("Read(%q)", c.s), got, c.want)
		if !ok {
			t.Errorf("Read(%q) says false", c.s)
		}
	}
}

func TestReadNone(t *testing.T) {
	for _, s := range []string{
		"", "-", "-0", "+5", "05", "5 ", " 5", "- 5", "-5 ", "-05", "-00", "00", "+", "+0", "+-5", "-+5", "--5", "--", "---5", "--0", "5-", "-5-", "0-", "0-0", "-a", "a", "-0x5", "-5.0", "-1e3", ".", "-.5", "5e0",
		"\x00", "-\x00", "-5\x00", "\u22125", "\u20135", "-\u0665", "\xad5", "-5\n", "\n-5", "1_000", "-1,000", "-Inf", "NaN", "nil",
		"-0" + strings.Repeat("9", 3000), "-" + strings.Repeat("0", 3000), "-" + strings.Repeat("9", 3000) + "-", strings.Repeat("-", 3000),
	} {
		got, ok := whole.Read(s)
		wantNone(t, fmt.Sprintf("Read(%.30q)", s), got, ok)
	}
}

// lead are the first digits of 2 to the power of 32 times MaxLimbs, which has digitsThere of them and is the lowest number with more limbs.
const (
	lead        = "4264487423559527872432728926"
	leadAbove   = "4264487423559527872432728927"
	digitsThere = 2525223
)

func TestReadMaxLimbs(t *testing.T) {
	for _, ahead := range []string{"", "-"} {
		t.Run("below 0: "+fmt.Sprint(ahead != ""), func(t *testing.T) {
			t.Parallel()
			s := ahead + lead + strings.Repeat("0", digitsThere-len(lead)-5) + "98765"
			x, ok := whole.Read(s)
			if !ok || x.Neg != (ahead == "-") || len(x.Mag) != api.MaxLimbs || cap(x.Mag) != len(x.Mag) {
				t.Fatalf("Read of %.3q .. just below the limit: %v, %d limbs, %v", s, x.Neg, len(x.Mag), ok)
			}
			if whole.Show(x) != s {
				t.Errorf("Show of %.3q .., with MaxLimbs limbs, is another text", s)
			}
		})
	}
}

func TestReadBeyondMaxLimbs(t *testing.T) {
	for _, ahead := range []string{"", "-"} {
		t.Run("below 0: "+fmt.Sprint(ahead != ""), func(t *testing.T) {
			t.Parallel()
			x, ok := whole.Read(ahead + leadAbove + strings.Repeat("0", digitsThere-len(lead)))
			wantNone(t, "Read just above the limit", x, ok)
			x, ok = whole.Read(ahead + "1" + strings.Repeat("0", digitsThere))
			wantNone(t, "Read of a digit too many", x, ok)
			x, ok = whole.Read(ahead + strings.Repeat("9", 1<<24))
			wantNone(t, "Read of far too many digits", x, ok)
		})
	}
}

// P3.5

func TestTwos(t *testing.T) {
	for _, c := range []struct {
		x    int64
		n    int
		want string
	}{
		{-1, 2, "\xff\xff"}, {-1, 1, "\xff"}, {127, 1, "\x7f"}, {-128, 1, "\x80"}, {-127, 1, "\x81"}, {0, 1, "\x00"}, {0, 3, "\x00\x00\x00"}, {1, 1, "\x01"}, {5, 4, "\x00\x00\x00\x05"}, {-5, 4, "\xff\xff\xff\xfb"},
		{128, 2, "\x00\x80"}, {-128, 2, "\xff\x80"}, {-129, 2, "\xff\x7f"}, {255, 2, "\x00\xff"}, {-255, 2, "\xff\x01"}, {-256, 2, "\xff\x00"}, {256, 2, "\x01\x00"}, {-257, 2, "\xfe\xff"},
		{32767, 2, "\x7f\xff"}, {-32768, 2, "\x80\x00"}, {32768, 3, "\x00\x80\x00"}, {-32769, 3, "\xff\x7f\xff"}, {-65536, 3, "\xff\x00\x00"}, {-1 << 32, 5, "\xff\x00\x00\x00\x00"},
		{math.MaxInt64, 8, "\x7f\xff\xff\xff\xff\xff\xff\xff"}, {math.MinInt64, 8, "\x80\x00\x00\x00\x00\x00\x00\x00"}, {math.MinInt64, 9, "\xff\x80\x00\x00\x00\x00\x00\x00\x00"},
	} {
		if got, ok := whole.Twos(at(c.x), c.n); got != c.want || !ok {
			t.Errorf("Twos(%d, %d) = %x, %v, want %x", c.x, c.n, got, ok, c.want)
		}
		wantInt(t, fmt.Sprintf("FromTwos(%x)", c.want), whole.FromTwos(c.want), at(c.x))
	}
	for _, x := range samples() {
		for n := 1; n <= 40; n++ {
			want, fits := widen(x).bytes(n)
			if got, ok := whole.Twos(x, n); got != want || ok != fits {
				t.Errorf("Twos(%v, %d) = %x, %v, want %x, %v", x, n, got, ok, want, fits)
			}
		}
	}
}

func TestTwosNone(t *testing.T) {
	for _, n := range []int{0, -1, -2, -8, api.MaxBytes + 1, api.MaxBytes + 2, 2 * api.MaxBytes, math.MaxInt32, math.MinInt32, math.MaxInt, math.MinInt, math.MaxInt/8 + 2, math.MinInt/8 + 1} {
		for _, x := range []api.Int{{}, {Neg: true}, at(5), at(-5), at(-1), power(70), whole.Neg(power(70))} {
			if got, ok := whole.Twos(x, n); got != "" || ok {
				t.Errorf("Twos(%v, %d) = %d bytes, %v", x, n, len(got), ok)
			}
		}
	}
	for _, c := range []struct {
		x int64
		n int
	}{{128, 1}, {-129, 1}, {255, 1}, {-255, 1}, {256, 1}, {-256, 1}, {-257, 1}, {32768, 2}, {-32769, 2}, {65535, 2}, {-65535, 2}, {65536, 2}, {-65536, 2}, {1 << 31, 4}, {-1<<31 - 1, 4}, {math.MaxInt64, 7}, {math.MinInt64, 7}} {
		if got, ok := whole.Twos(at(c.x), c.n); got != "" || ok {
			t.Errorf("Twos(%d, %d) = %x, %v", c.x, c.n, got, ok)
		}
	}
}

// At both ends of the range of n bytes and one beyond, for every length up to some limbs and for the greatest.
func TestTwosEnds(t *testing.T) {
	sizes := []int{255, 256, 1000, 4095, 4096, 4097, api.MaxBytes - 1, api.MaxBytes}
	for n := range 70 {
		sizes = append(sizes, n+1)
	}
	for _, n := range sizes {
		end := power(8*n - 1)
		most, least := whole.Sub(end, at(1)), whole.Neg(end)
		for _, c := range []struct {
			x    api.Int
			want string
		}{
			{most, "\x7f" + strings.Repeat("\xff", n-1)}, {least, "\x80" + strings.Repeat("\x00", n-1)}, {at(0), strings.Repeat("\x00", n)}, {at(-1), strings.Repeat("\xff", n)},
			{at(1), strings.Repeat("\x00", n-1) + "\x01"}, {at(-2), strings.Repeat("\xff", n-1) + "\xfe"},
		} {
			if got, ok := whole.Twos(c.x, n); got != c.want || !ok {
				t.Errorf("Twos in %d bytes: %.4x .. of %d bytes, %v, want %.4x ..", n, got, len(got), ok, c.want)
			}
			if !equal(whole.FromTwos(c.want), c.x) {
				t.Errorf("FromTwos(%.4x ..) of %d bytes is another number", c.want, n)
			}
		}
		for _, x := range []api.Int{end, whole.Sub(least, at(1)), power(8 * n), whole.Neg(power(8 * n)), power(8*n + 7), whole.Neg(power(8*n + 100))} {
			if got, ok := whole.Twos(x, n); got != "" || ok {
				t.Errorf("Twos in %d bytes beyond their range, %v and %d limbs: %d bytes, %v", n, x.Neg, len(x.Mag), len(got), ok)
			}
		}
	}
}

func TestFromTwos(t *testing.T) {
	for _, c := range []struct {
		s    string
		want int64
	}{
		{"", 0}, {"\x00", 0}, {"\x00\x00\x00\x00\x00", 0}, {"\x7f", 127}, {"\x80", -128}, {"\x81", -127}, {"\xff", -1}, {"\x01", 1}, {"\x00\x80", 128}, {"\xff\x80", -128}, {"\xff\x7f", -129}, {"\x7f\x00", 32512}, {"\x80\x00", -32768},
		{"\xff\xff\xfe", -2}, {"\xff\xff\xff\xff\xff\xff\xff\xff\xff\xff\xff\xff", -1}, {"\xff\x00\x00\x00\x00", -1 << 32}, {"\x00\x00\x00\x00\x01\x00\x00\x00\x00", 1 << 32}, {"\x00\xff\xff\xff\xff", top}, {"\xff\x00\x00\x00\x01", -top},
		{"\xfe\xff\xff\xff\xff", -1<<32 - 1}, {"0", 48}, {"-5", 0x2d35}, {"\x80\x00\x00\x00\x00\x00\x00\x00", math.MinInt64}, {"\x7f\xff\xff\xff\xff\xff\xff\xff", math.MaxInt64},
	} {
		wantInt(t, fmt.Sprintf("FromTwos(%x)", c.s), whole.FromTwos(c.s), at(c.want))
	}
}

// Strings of any length, beyond MaxBytes and MaxLimbs too, and where the last piece of a long one is short or has noughts ahead.
func TestFromTwosLong(t *testing.T) {
	r := rule{5}
	for _, size := range []int{100, 101, 102, 103, 5000, api.MaxBytes - 1, api.MaxBytes, api.MaxBytes + 1, api.MaxBytes + 2, api.MaxBytes + 3, api.MaxBytes + 4, api.MaxBytes + 5, 2*api.MaxBytes + 1, 3*api.MaxBytes + 7} {
		for _, first := range []string{"\x00", "\x01", "\x7f", "\x80", "\xff", "\x00\x00\x00\x00\x00\x00\x01", "\xff\xff\xff\xff\xff\xff\xfe"} {
			s := first + r.text(size-len(first))
			wantDigits(t, s)
		}
		wantDigits(t, "\x80"+strings.Repeat("\x00", size-1))
		wantDigits(t, "\x7f"+strings.Repeat("\xff", size-1))
		wantDigits(t, strings.Repeat("\xff", size))
		wantDigits(t, strings.Repeat("\x00", size))
		wantDigits(t, "\x01"+strings.Repeat("\x00", size-1))
	}
}

// wantDigits holds FromTwos(s) to the limbs of s, or where its first byte says so to 2 to the power of its bits less them.
func wantDigits(t *testing.T, s string) {
	t.Helper()
	want := make(list, (len(s)+3)/4+1)
	for i := range len(s) {
		want[i/4] |= uint32(s[len(s)-1-i]) << (i % 4 * 8)
	}
	neg := s[0] >= 128
	if neg {
		var borrow uint64
		for i := range want {
			step := -uint64(want[i]) - borrow
			want[i] = uint32(step)
			borrow = step >> 63
		}
		want[len(s)/4] &= 1<<(len(s)%4*8) - 1
		clear(want[len(s)/4+1:])
	}
	for len(want) > 0 && want[len(want)-1] == 0 {
		want = want[:len(want)-1]
	}
	if got := whole.FromTwos(s); got.Neg != neg || !slices.Equal(got.Mag, want) || cap(got.Mag) != len(got.Mag) {
		t.Errorf("FromTwos(%.8x ..) of %d bytes is another number: %v, %d limbs", s, len(s), got.Neg, len(got.Mag))
	}
}
