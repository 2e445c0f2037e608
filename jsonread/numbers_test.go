package jsonread_test

import (
	"math"
	"math/big"
	"strconv"
	"strings"
	"testing"

	"crucible/api"
	"crucible/ecma"
	"crucible/jsonread"
	"crucible/number"
)

// minus is a number with the other sign.
func minus(v api.Value) api.Value {
	if v.Kind == api.VFloat {
		v.Bits ^= 1 << 63
	}
	v.Int.Neg = len(v.Int.Mag) > 0 && !v.Int.Neg
	return v
}

// isRead asks for a number without a sign by itself, with one, and with others beside it.
func isRead(t *testing.T, s string, want api.Value) {
	t.Helper()
	reads(t, s, want)
	reads(t, "-"+s, minus(want))
	reads(t, " "+s+"\n", want)
	reads(t, "["+s+",-"+s+" ,"+s+"]", list(want, minus(want), want))
	reads(t, `{"":`+s+`,"a":-`+s+"}", object(text(""), want, text("a"), minus(want)))
}

// isTooGreat asks for a number likewise.
func isTooGreat(t *testing.T, s string) {
	t.Helper()
	fails(t, s, input, 0)
	fails(t, "-"+s, input, 0)
	fails(t, " \t"+s+" ", input, 2)
	fails(t, "[1, -"+s+", 2]", input, 4)
	fails(t, `{"a":[],"b": `+s+"}", input, 13)
	fails(t, `[[{"a":{"b":"c","d":[[`+s+"]]}}]]", input, 22)
}

// P17.1: noughts, with a sign and without one.
func TestNoughts(t *testing.T) {
	for _, s := range []string{"0", "0.0", "0.000", "0e0", "0E5", "0e+99", "0e-99", "0.00e00", "0e99999999999999999999", "0e-99999999999999999999", "0.0E+400", "0." + strings.Repeat("0", 2000), "0e" + strings.Repeat("9", 2000)} {
		isRead(t, s, whole("0"))
	}
}

// P17.1: whole numbers below 64 bits and beyond, however they are written.
func TestWhole(t *testing.T) {
	for _, c := range [][2]string{
		{"1", "1"}, {"9", "9"}, {"10", "10"}, {"255", "255"}, {"65536", "65536"}, {"4294967295", "4294967295"}, {"4294967296", "4294967296"}, {"9007199254740991", "9007199254740991"}, {"9007199254740992", "9007199254740992"},
		{"9007199254740993", "9007199254740992"}, {"9007199254740994", "9007199254740994"}, {"9007199254740995", "9007199254740996"}, {"9223372036854775807", "9223372036854775808"}, {"18446744073709551615", "18446744073709551616"},
		{"18446744073709551616", "18446744073709551616"}, {"18446744073709553665", "18446744073709555712"}, {"18446744073709553664", "18446744073709551616"}, {"100000000000000000000", "100000000000000000000"},
		{"123456789012345678901234567890", "123456789012345677877719597056"}, {"1e21", "1000000000000000000000"}, {"1e23", "99999999999999991611392"}, {"1E+2", "100"}, {"1.0", "1"}, {"1.50e1", "15"}, {"0.1e1", "1"}, {"100e-2", "1"}, {"1200E-00002", "12"},
		{"0.00000000000000000001e20", "1"}, {"12345678.000", "12345678"}, {"4503599627370496.5", "4503599627370496"}, {"4503599627370497.5", "4503599627370498"},
		{"1" + strings.Repeat("0", 400) + "e-400", "1"}, {"0." + strings.Repeat("0", 999) + "1e1000", "1"}, {"1." + strings.Repeat("0", 5000) + "1", "1"}, {"9007199254740993." + strings.Repeat("0", 3000) + "1", "9007199254740994"}, {"9007199254740992." + strings.Repeat("9", 3000), "9007199254740992"},
	} {
		isRead(t, c[0], whole(c[1]))
	}
	isRead(t, "1e300", numberOf(1e300))
	// 2 to every power of which there is a pattern, with all its digits.
	n := big.NewInt(1)
	for range 1024 {
		isRead(t, n.String(), wholeOf(n))
		n.Lsh(n, 1)
	}
	isTooGreat(t, n.String())
}

// P17.1: what is no whole number.
func TestFractions(t *testing.T) {
	for _, c := range []struct {
		s    string
		bits uint64
	}{
		{"0.5", 0x3fe0000000000000}, {"1.5", 0x3ff8000000000000}, {"2.50", 0x4004000000000000}, {"15e-1", 0x3ff8000000000000}, {"15E-01", 0x3ff8000000000000}, {"0.15e+1", 0x3ff8000000000000}, {"0.1", 0x3fb999999999999a}, {"1e-1", 0x3fb999999999999a},
		{"0.3", 0x3fd3333333333333}, {"0.30000000000000004", 0x3fd3333333333334}, {"3.141592653589793", 0x400921fb54442d18}, {"1e-7", 0x3e7ad7f29abcaf48}, {"123456.789", 0x40fe240c9fbe76c9}, {"4503599627370495.5", 0x432fffffffffffff},
		{"0.1" + strings.Repeat("0", 3000), 0x3fb999999999999a}, {"0.1000000000000000055511151231257827021181583404541015625", 0x3fb999999999999a}, {"0.10000000000000001249000902703301107976585626602172851562", 0x3fb999999999999a}, {"0.100000000000000012490009027033011079765856266021728515627", 0x3fb999999999999b},
		{"1" + strings.Repeat("0", 300) + "e-301", 0x3fb999999999999a},
	} {
		isRead(t, c.s, float(c.bits))
	}
}

// digits is m times 2 to the power of -e, with all its digits.
func digits(m int64, e int) string {
	power := new(big.Int).Exp(big.NewInt(5), big.NewInt(int64(e)), nil)
	return new(big.Int).Mul(big.NewInt(m), power).String() + "e-" + strconv.Itoa(e)
}

// P17.1: numbers near to nought: the least pattern, a half of it, and what lies around these.
func TestNearNought(t *testing.T) {
	isRead(t, "5e-324", float(1))
	isRead(t, "3e-324", float(1))
	isRead(t, "2e-324", whole("0"))
	isRead(t, digits(1, 1074), float(1))
	half := digits(1, 1075)
	isRead(t, half, whole("0"))
	mantissa, power, _ := strings.Cut(half, "e-")
	n, _ := strconv.Atoi(power)
	isRead(t, mantissa+strings.Repeat("0", 500)+"1e-"+strconv.Itoa(n+501), float(1))
	isRead(t, mantissa[:len(mantissa)-1]+"4e-"+power, whole("0"))
	isRead(t, digits(3, 1075), float(2))
	isRead(t, digits(5, 1075), float(2))
	isRead(t, digits(5, 1074), float(5))
	isRead(t, "2.2250738585072014e-308", float(0x0010000000000000))
	isRead(t, "2.225073858507201e-308", float(0x000fffffffffffff))
	for _, s := range []string{"1e-400", "9.99e-325", "1e-99999999999999999999", "1" + strings.Repeat("0", 1000) + "e-2000", "0." + strings.Repeat("0", 400) + "1"} {
		isRead(t, s, whole("0"))
	}
}

// P17.1: the greatest number whose nearest pattern is finite, and the next beyond it.
func TestTooGreat(t *testing.T) {
	greatest := numberOf(math.MaxFloat64)
	// A half of the last step above the greatest pattern: 2 to the power of 1024 less 2 to the power of 970.
	edge := new(big.Int).Lsh(big.NewInt(1), 1024)
	edge.Sub(edge, new(big.Int).Lsh(big.NewInt(1), 970))
	below := new(big.Int).Sub(edge, big.NewInt(1))
	for _, s := range []string{"1.7976931348623157e308", "1.7976931348623158e308", "17976931348623157e292", below.String(), below.String() + ".0", below.String() + "." + strings.Repeat("9", 2000), below.String() + "e0", below.String() + "000e-3"} {
		isRead(t, s, greatest)
	}
	for _, s := range []string{
		edge.String(), edge.String() + ".0", edge.String() + ".5", edge.String() + "e0", edge.String() + "00e-2", edge.String() + "." + strings.Repeat("0", 2000) + "1", "1.7976931348623159e308", "1.8e308", "1e309", "1E309", "1e+309", "1e999", "0.1e310", "0.0001e400",
		"1" + strings.Repeat("0", 309), "1" + strings.Repeat("0", 5000), "1e99999999999999999999", "1e" + strings.Repeat("9", 2000), "1" + strings.Repeat("0", 1000) + "e-600", "0." + strings.Repeat("0", 300) + "1e999",
	} {
		isTooGreat(t, s)
	}
}

func (r *rule) digits(n int) string {
	out := make([]byte, n)
	for i := range out {
		out[i] = '0' + byte(r.below(10))
	}
	return string(out)
}

// anyNumber makes a JSON number in any of the ways to write one; few of them are too great.
func (r *rule) anyNumber() string {
	out := pick(r, "", "-") + pick(r, "0", pick(r, "1", "5", "9")+r.digits(r.below(25)))
	if r.below(2) == 0 {
		out += "." + r.digits(1+r.below(25))
	}
	if r.below(2) == 0 {
		out += pick(r, "e", "E") + pick(r, "", "+", "-", "-") + pick(r, "", "0", "00") + strconv.Itoa(r.below(pick(r, 5, 30, 320)))
	}
	return out
}

// P17.1, P17.2: a number is read as the nearest pattern's, which is number.Of of what ecma.Read answers.
func TestAnyNumber(t *testing.T) {
	r := rule{1701}
	tooGreat := 0
	for range 20000 {
		s := r.anyNumber()
		sameAsReference(t, s)
		v, err := jsonread.Read(s)
		bits, wrong := ecma.Read(s)
		switch {
		case wrong != nil:
			tooGreat++
			fails(t, s, input, 0)
		case err != nil || !same(v, number.Of(bits)):
			t.Errorf("Read(%q) = %s, %v, want the number of %#x", s, show(v), err, bits)
		}
	}
	if tooGreat < 50 {
		t.Errorf("%d too great", tooGreat)
	}
	// Of any pattern, told with the digits that are enough for it, and with all of them.
	for range 5000 {
		f := math.Float64frombits(r.next())
		if math.IsInf(f, 0) || math.IsNaN(f) {
			continue
		}
		reads(t, strconv.FormatFloat(f, 'e', -1, 64), numberOf(f))
		reads(t, strconv.FormatFloat(f, 'f', -1, 64), numberOf(f))
		reads(t, strconv.FormatFloat(f, 'e', 780, 64), numberOf(f))
	}
}
