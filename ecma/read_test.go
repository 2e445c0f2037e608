package ecma_test

import (
	"math"
	"strconv"
	"strings"
	"testing"

	"crucible/ecma"
	"crucible/nat"
	"crucible/quot"
)

// P8.3 at what the document names, and at what follows by hand.
func TestKnownRead(t *testing.T) {
	noughts := strings.Repeat("0", 999)
	for _, c := range []struct {
		s    string
		want uint64
	}{
		{"0", 0}, {"1.50e0", 0x3ff8000000000000}, {"12E+1", 0x405e000000000000}, {"1e-400", 0}, {"1.7976931348623158e308", infinite - 1},
		{"0e99999999999999999999", 0}, {"1e-99999999999999999999", 0}, {"0." + noughts + "1e1000", 0x3ff0000000000000},
		// All ways to write one number.
		{"120", 0x405e000000000000}, {"120.0", 0x405e000000000000}, {"12e1", 0x405e000000000000}, {"12e01", 0x405e000000000000}, {"12E1", 0x405e000000000000}, {"1200e-1", 0x405e000000000000}, {"1200E-001", 0x405e000000000000}, {"1.2e+2", 0x405e000000000000}, {"0.12e3", 0x405e000000000000}, {"0.000120e6", 0x405e000000000000}, {"120e0", 0x405e000000000000}, {"120e-0", 0x405e000000000000}, {"120E+0", 0x405e000000000000}, {"120.000e+000", 0x405e000000000000},
		// 0 in all ways.
		{"0.0", 0}, {"0e0", 0}, {"0E-0", 0}, {"0.000e+5", 0}, {"0e-99999999999999999999", 0}, {"0.0e99999999999999999999", 0}, {"0." + noughts + "e400", 0},
		// The nearest one: halfway, a little above, a little below.
		{"9007199254740993", 0x4340000000000000}, {"9007199254740993.0", 0x4340000000000000}, {"9007199254740993.00000000000000000001", 0x4340000000000001}, {"9007199254740992.99999999999999999999", 0x4340000000000000}, {"9007199254740995", 0x4340000000000002}, {"0.1", 0x3fb999999999999a}, {"1e23", 0x44b52d02c7e14af6},
		// The least ones, and what is rounded to 0.
		{"5e-324", 1}, {"4.9e-324", 1}, {"2.4703282292062327208e-324", 0}, {"2.4703282292062328e-324", 1}, {"2.2250738585072014e-308", 0x0010000000000000}, {"2.225073858507201e-308", 0x000fffffffffffff}, {"1e-323", 2}, {"0.1e-323", 0},
		// The greatest ones; 1e400 and digits that take it back, and noughts that a power takes back.
		{"1.7976931348623157e+308", infinite - 1}, {"17976931348623157" + strings.Repeat("0", 292), infinite - 1}, {"0." + strings.Repeat("0", 399) + "1e401", 0x4024000000000000}, {"1" + noughts + "e-999", 0x3ff0000000000000}, {"1" + noughts + "." + noughts + "e-1000", 0x3fb999999999999a}, {"0." + noughts + "1e700", 0x01a56e1fc2f8f359}, {"1" + noughts + "e-1300", 0x017124e63593f5e1}, {"1" + noughts + "e-1400", 0},
	} {
		wantRead(t, c.s, c.want)
	}
}

// P8.3: -0, however it is written, has the sign bit.
func TestReadMinusNought(t *testing.T) {
	for _, s := range []string{"-0", "-0.0", "-0e0", "-0.000E+99999999999999999999", "-1e-400", "-0.1e-99999999999999999999", "-2.47e-324"} {
		if got, err := ecma.Read(s); got != sign || err != nil {
			t.Errorf("Read(%q) = %#x, %v", s, got, err)
		}
	}
}

// P8.3: the place of the first wrong byte, or the text's length.
func TestKnownFaults(t *testing.T) {
	for _, c := range []struct {
		s  string
		at int
	}{
		{"", 0}, {"-", 1}, {"01", 1}, {"1.", 2}, {"1.x", 2}, {"1e", 2}, {"1e+", 3}, {"+1", 0}, {".5", 0}, {"1 ", 1}, {"0x1", 1},
		// Noughts and signs ahead.
		{"00", 1}, {"-00", 2}, {"-01", 2}, {"007", 1}, {"00.5", 1}, {"--1", 1}, {"-+1", 1}, {"+", 0}, {"+0", 0}, {"-.5", 1}, {"-e5", 1}, {"-x", 1}, {"- 1", 1},
		// A point or an e with nothing, or something else, behind it.
		{"-1.", 3}, {"0.", 2}, {"1.e5", 2}, {"1..5", 2}, {"1.-5", 2}, {"1.+5", 2}, {"1. 5", 2}, {".", 0}, {"-0.", 3}, {"1.5.", 3}, {"1.5.5", 3},
		{"1E", 2}, {"1e-", 3}, {"1E+", 3}, {"1ee5", 2}, {"1e.5", 2}, {"1e+-5", 3}, {"1e--5", 3}, {"1e++5", 3}, {"1e 5", 2}, {"1e+ 5", 3}, {"1e5.", 3}, {"1e5.5", 3}, {"1e5e5", 3}, {"1e5+", 3}, {"1e5-", 3}, {"1.5e", 4}, {"1.5e+", 5}, {"1.5e-x", 5}, {"e5", 0}, {"E", 0}, {"0e", 2}, {"0e+", 3}, {"0ex", 2},
		// Signs within.
		{"1-", 1}, {"1+", 1}, {"1-1", 1}, {"0-", 1}, {"1.5-", 3}, {"1.5+1", 3},
		// Blanks, and bytes behind a whole number.
		{" 1", 0}, {"\n1", 0}, {"1\n", 1}, {"1\t", 1}, {"1.5 ", 3}, {"1e5 ", 3}, {"12,", 2}, {"12]", 2}, {"1_000", 1}, {"1,5", 1}, {"1\x00", 1}, {"\x00", 0}, {"1e5\x00", 3}, {"0\x00", 1}, {"1/", 1}, {"1:", 1}, {"/", 0}, {":", 0},
		// What other languages have.
		{"NaN", 0}, {"Infinity", 0}, {"-Infinity", 1}, {"0x", 1}, {"0b1", 1}, {"1n", 1}, {"1f", 1}, {"1p5", 1}, {"١", 0}, {"1١", 1}, {"１", 0}, {"1\xff", 1}, {"\xff", 0}, {"\u22121", 0}, {"x", 0}, {"null", 0},
		// The wrong byte comes first, whatever the number ahead of it would be.
		{"1e999x", 5}, {"1e999 ", 5}, {"1e99999999999999999999x", 22}, {"-1e309.", 6}, {"01e309", 1}, {"1e309e", 5},
		{strings.Repeat("9", 5000) + "x", 5000}, {strings.Repeat("9", 5000) + ".", 5001}, {"0." + strings.Repeat("0", 5000), -1}, {"0." + strings.Repeat("0", 5000) + "e", 5003},
	} {
		if c.at < 0 {
			wantRead(t, c.s, 0)
			continue
		}
		wantFault(t, c.s, c.at)
	}
}

// P8.3: numbers whose nearest pattern is infinite, of each sign.
func TestReadTooGreat(t *testing.T) {
	for _, s := range []string{
		"1e309", "1.7976931348623159e308", "1e99999999999999999999", "1e+99999999999999999999", "0.1e310", "1e9223372036854775807", "1e9223372036854775808", "1e18446744073709551616", "1E4294967296", "1e2147483648", "0.001e00000400",
		strings.Repeat("9", 309), strings.Repeat("9", 309) + ".5", "1" + strings.Repeat("0", 2000), "1" + strings.Repeat("0", 2000) + "e-1691", "0." + strings.Repeat("0", 2000) + "1e2310",
	} {
		wantFault(t, s, 0)
		wantFault(t, "-"+s, 0)
	}
}

// P8.3: the halfway number above the greatest pattern is the first one whose nearest is infinite.
func TestReadAboutTheGreatest(t *testing.T) {
	text, _ := middle(infinite - 1).inDigits()
	m, _ := quot.Read(text)
	less, _ := nat.Sub(m, list{1})
	below := quot.Digits(less)
	wantFault(t, text, 0)
	wantFault(t, "-"+text, 0)
	wantFault(t, text+".00", 0)
	wantFault(t, text+".0000000000000000001", 0)
	wantRead(t, below, infinite-1)
	wantRead(t, below+".99999999999999999999999", infinite-1)
	wantRead(t, below+strings.Repeat("0", 500)+"e-500", infinite-1)
	wantFault(t, "0."+text+"e309", 0)
	wantRead(t, "0."+below+strings.Repeat("9", 3000)+"e+309", infinite-1)
}

// P8.3: powers far beyond any int, or beyond what the digits make up for.
func TestReadPowers(t *testing.T) {
	for _, n := range []int{1, 19, 20, 21, 40, 1000, 100000} {
		nines := strings.Repeat("9", n)
		wantRead(t, "1e-00"+nines+nines+nines, 0)
		wantRead(t, "1e"+strings.Repeat("0", n)+"2", 0x4059000000000000)
		wantRead(t, "1E+"+strings.Repeat("0", n), 0x3ff0000000000000)
		wantRead(t, "1e-"+strings.Repeat("0", n)+"2", 0x3f847ae147ae147b)
		wantRead(t, "0.000e"+nines, 0)
		wantFault(t, "1e1"+nines+nines+nines, 0)
		wantFault(t, "1e999"+nines, 0)
	}
	for _, s := range []string{"2147483647", "2147483648", "4294967295", "4294967296", "9223372036854775807", "9223372036854775808", "18446744073709551615", "18446744073709551616", "18446744073709551617"} {
		wantRead(t, "1e-"+s, 0)
		wantRead(t, "0."+strings.Repeat("0", 500)+"1e-"+s, 0)
		wantRead(t, strings.Repeat("9", 500)+"e-"+s, 0)
		wantRead(t, "0e"+s, 0)
		wantFault(t, "1e"+s, 0)
		wantFault(t, "0."+strings.Repeat("0", 500)+"1e"+s, 0)
	}
	for power := -420; power <= 420; power++ {
		f, err := strconv.ParseFloat("1e"+strconv.Itoa(power), 64)
		s := "1e" + strconv.Itoa(power)
		if err != nil {
			wantFault(t, s, 0)
			continue
		}
		wantRead(t, s, math.Float64bits(f))
	}
}

// P8.3: digits by the thousand, ahead of the point and behind it, taken back by a power.
func TestReadManyDigits(t *testing.T) {
	for _, n := range []int{100, 399, 400, 401, 402, 999, 1000, 5000, 100000} {
		noughts, count := strings.Repeat("0", n), strconv.Itoa(n)
		more := strconv.Itoa(n + 1)
		wantRead(t, "0."+noughts+"1e"+more, 0x3ff0000000000000)
		wantRead(t, "0."+noughts+"15e"+more, 0x3ff8000000000000)
		wantRead(t, "0."+noughts+"1e"+strconv.Itoa(n+309), 0x7fe1ccf385ebc8a0)
		wantFault(t, "0."+noughts+"1e"+strconv.Itoa(n+310), 0)
		wantRead(t, "1"+noughts+"e-"+count, 0x3ff0000000000000)
		wantRead(t, "1"+noughts+".000E-"+more, 0x3fb999999999999a)
		wantRead(t, "1"+noughts+"e-"+strconv.Itoa(n+323), 2)
		wantRead(t, "1"+noughts+"e-"+strconv.Itoa(n+324), 0)
		wantRead(t, "5"+noughts+"e-"+strconv.Itoa(n+324), 1)
		// One digit far behind tells.
		wantRead(t, "9007199254740993."+noughts, 0x4340000000000000)
		wantRead(t, "9007199254740993."+noughts+"1", 0x4340000000000001)
		wantRead(t, "9007199254740993"+noughts+"1e-"+more, 0x4340000000000001)
		wantRead(t, "0."+strings.Repeat("3", n), 0x3fd5555555555555)
		wantRead(t, "1."+strings.Repeat("9", n), 0x4000000000000000)
	}
}

// P8.3: halfway between two patterns, and a little below and above, with all digits written out.
func TestReadHalfway(t *testing.T) {
	for i, x := range some() {
		if x == infinite-1 || i%7 != 0 && x > 30 {
			continue
		}
		text, behind := middle(x).inDigits()
		even := x + x%2
		if behind == 0 {
			wantRead(t, text, even)
			wantRead(t, text+".0001", x+1)
			continue
		}
		power := "e-" + strconv.Itoa(behind)
		m, _ := quot.Read(text)
		less, _ := nat.Sub(m, list{1})
		wantRead(t, text+power, even)
		wantRead(t, text+".000"+power, even)
		wantRead(t, text+".0001"+power, x+1)
		wantRead(t, quot.Digits(less)+".9999"+power, x)
		plain := strings.Repeat("0", max(0, behind+1-len(text))) + text
		plain = plain[:len(plain)-behind] + "." + plain[len(plain)-behind:]
		wantRead(t, plain, even)
		wantRead(t, plain+"0001", x+1)
	}
}

// P8.3, P0.6, held against the document's words.
func TestReadByTheWords(t *testing.T) {
	r := rule{23}
	finite, great := 0, 0
	for range 6000 {
		s := r.number(360)
		got, err := ecma.Read(s)
		if err != nil {
			great++
			if !isNearest(size(s), infinite) {
				t.Errorf("Read(%q): %v, but its nearest pattern is not infinite", s, err)
			}
			wantFault(t, s, 0)
			continue
		}
		finite++
		if got>>63 == 1 != strings.HasPrefix(s, "-") || got&^sign >= infinite || !isNearest(size(s), got&^sign) {
			t.Errorf("Read(%q) = %#x: not the nearest", s, got)
		}
	}
	if finite < 3000 || great < 100 {
		t.Errorf("%d finite ones, %d too great", finite, great)
	}
}

// P8.3, held against what the language's own library reads.
func TestReadAsTheLanguage(t *testing.T) {
	r := rule{29}
	for i := range 40000 {
		s := r.number([]int{20, 400, 1 << 40}[i%3])
		f, err := strconv.ParseFloat(s, 64)
		if err != nil {
			wantFault(t, s, 0)
			continue
		}
		if got, err := ecma.Read(s); got != math.Float64bits(f) || err != nil {
			t.Errorf("Read(%q) = %#x, %v, want %#x", s, got, err, math.Float64bits(f))
		}
	}
}

// goOn asks for s, which is the beginning of a JSON number, and for all that goes on from it.
func goOn(t *testing.T, s string, length int) int {
	t.Helper()
	if !isNumber(s) {
		wantFault(t, s, len(s))
	} else if got, err := ecma.Read(s); err != nil {
		if !isNearest(size(s), infinite) {
			t.Errorf("Read(%q) = %#x, %v", s, got, err)
		}
	}
	count := 1
	for c := range 256 {
		next := s + string([]byte{byte(c)})
		if !isBeginning(next) {
			for _, tail := range []string{"", "0", "x1"} {
				wantFault(t, next+tail, len(s))
			}
			continue
		}
		// Of the digits 2 to 8 one is enough to go on with.
		if length > 1 && !strings.Contains("2345678", next[len(s):]) {
			count += goOn(t, next, length-1)
		}
	}
	return count
}

// P8.3: every byte behind every short beginning of a JSON number, and what comes behind a wrong one.
func TestReadEveryByte(t *testing.T) {
	if count := goOn(t, "", 6); count < 1000 {
		t.Errorf("%d beginnings", count)
	}
}

// P8.3: one byte of a JSON number dropped, doubled, changed, or two of them put together.
func TestReadSpoilt(t *testing.T) {
	r := rule{31}
	wrong := 0
	for range 20000 {
		s := r.number(30)
		at := r.below(len(s))
		switch r.below(4) {
		case 0:
			s = s[:at] + s[at+1:]
		case 1:
			s = s[:at+1] + s[at:]
		case 2:
			s = s[:at] + string("-+.eE019 x"[r.below(10)]) + s[at+1:]
		default:
			s = s[:at] + r.number(30)
		}
		if !isNumber(s) {
			wrong++
			wantFault(t, s, firstWrong(s))
			continue
		}
		_, err := ecma.Read(s)
		if _, tooGreat := strconv.ParseFloat(s, 64); err != nil != (tooGreat != nil) {
			t.Errorf("Read(%q): %v, want %v", s, err, tooGreat)
		}
	}
	if wrong < 3000 {
		t.Errorf("only %d are no JSON numbers", wrong)
	}
}
