package diag_test

import (
	"fmt"
	"math"
	"math/big"
	"slices"
	"strconv"
	"strings"
	"testing"

	"crucible/api"
	"crucible/escape"
	"crucible/number"
)

// readsEverywhere asks for a value by itself, with what stands between around it, in lists, in tags, as a key and behind one.
func readsEverywhere(t *testing.T, s string, v api.Value) {
	t.Helper()
	reads(t, s, v)
	reads(t, " /x/\n"+s+"\t/y/ ", v)
	reads(t, "["+s+"]", list(v))
	reads(t, "[0,"+s+",\r"+s+"//]", list(num(0), v, v))
	reads(t, "7("+s+")", tag(7, v))
	reads(t, "{"+s+":"+s+"}", object(v, v))
	reads(t, "{ [ "+s+" ] /:/: {[]:"+s+" }}", object(list(v), object(list(), v)))
}

// P22.2: what has a name.
func TestReadNames(t *testing.T) {
	for name, v := range map[string]api.Value{"null": null, "false": no, "true": yes, "undefined": simple(23), "Infinity": float(plus), "-Infinity": float(minus), "NaN": float(noNumber)} {
		readsEverywhere(t, name, v)
		for n := range len(name) {
			fails(t, name[:n], input, n)
			fails(t, name[:n]+"?"+name[n:], input, n)
			fails(t, "["+name[:n]+".", input, n+1)
			if other := strings.ToUpper(name[n : n+1]); other != name[n:n+1] && name[:n]+other != "N" {
				fails(t, name[:n]+other+name[n+1:], input, n)
			}
		}
		for _, behind := range []string{"x", "0", "(", "l", "e", "\"", "[", "-"} {
			fails(t, name+behind, input, len(name))
			fails(t, "["+name+behind, input, len(name)+1)
		}
	}
}

// P22.2: whole numbers are just what they say.
func TestReadWhole(t *testing.T) {
	for _, digits := range []string{"0", "1", "2", "3", "9", "10", "100", "4294967295", "4294967296", "9007199254740993", "18446744073709551615", "18446744073709551616", "123456789012345678901234567890", "1" + strings.Repeat("0", 400), strings.Repeat("9", 2000)} {
		readsEverywhere(t, digits, whole(digits))
		readsEverywhere(t, "-"+digits, whole("-"+digits))
	}
	for _, digits := range []string{"0", "00", "000", "1", "01", "f", "F", "10", "ff", "fF", "Ff", "0ff", "abc", "ABCDEF", "deadBEEF", "123456789", "0000000001", "ffffffffffffffff", "10000000000000000", strings.Repeat("0", 5000), strings.Repeat("0", 500) + "1", strings.Repeat("e", 1024), "1" + strings.Repeat("0", 1024), strings.Repeat("0f", 3000)} {
		readsEverywhere(t, "0x"+digits, whole("0x"+digits))
		readsEverywhere(t, "-0x"+digits, whole("-0x"+digits))
	}
	r := rule{2221}
	for range 5000 {
		v := r.integer()
		n := bigOf(v)
		sign, size := "", new(big.Int).Abs(n)
		if n.Sign() < 0 {
			sign = "-"
		}
		reads(t, n.String(), v)
		reads(t, fmt.Sprintf("%s0x%x", sign, size), v)
		reads(t, fmt.Sprintf("%s0x0%X", sign, size), v)
		reads(t, fmt.Sprintf("%s0x00%s", sign, r.cased(size.Text(16))), v)
	}
}

// P22.2: with a point or a power a number is that of the nearest pattern.
func TestReadRounded(t *testing.T) {
	for _, c := range []struct {
		s    string
		want api.Value
	}{
		{"1.0", num(1)}, {"1e0", num(1)}, {"1E0", num(1)}, {"1e+0", num(1)}, {"1e-0", num(1)}, {"100e-2", num(1)}, {"0.1e1", num(1)}, {"0.00", num(0)}, {"0e5", num(0)}, {"0E-99999999999999999999", num(0)}, {"0e99999999999999999999", num(0)}, {"1.5", float(half3)}, {"15e-1", float(half3)}, {"0.1", float(0x3fb999999999999a)},
		{"1e3", num(1000)}, {"1e21", whole("1000000000000000000000")}, {"1e22", whole("10000000000000000000000")}, {"1e23", whole("99999999999999991611392")}, {"9007199254740993.0", num(9007199254740992)}, {"9007199254740993e0", num(9007199254740992)}, {"9007199254740995.0", num(9007199254740996)}, {"9007199254740993.00000000000000000000000000000000000001", num(9007199254740994)},
		{"5e-324", float(1)}, {"3e-324", float(1)}, {"2e-324", num(0)}, {"1e-99999999999999999999", num(0)}, {"1.7976931348623157e308", numberOf(math.MaxFloat64)}, {"1.7976931348623158e308", numberOf(math.MaxFloat64)}, {"1.7976931348623159e308", float(plus)}, {"1e309", float(plus)}, {"1e99999999999999999999", float(plus)}, {"0." + strings.Repeat("0", 999) + "1e1000", num(1)}, {strings.Repeat("9", 400) + ".5", float(plus)}, {strings.Repeat("9", 400) + "e-399", num(10)}, {"4.45e0", numberOf(4.45)}, {"1" + strings.Repeat("0", 300) + "e-300", num(1)},
	} {
		readsEverywhere(t, c.s, c.want)
		negative := c.want
		switch {
		case negative.Kind == api.VFloat:
			negative.Bits |= 1 << 63
		case len(negative.Int.Mag) > 0:
			negative.Int.Neg = true
		}
		readsEverywhere(t, "-"+c.s, negative)
	}
	r := rule{2222}
	for range 20000 {
		f := math.Float64frombits(r.next())
		if math.IsNaN(f) || math.IsInf(f, 0) {
			continue
		}
		digits := r.below(25)
		s := strconv.FormatFloat(f, pick(&r, byte('e'), 'E'), digits, 64)
		g, _ := strconv.ParseFloat(s, 64)
		reads(t, s, numberOf(g))
	}
	// Halfway between two, and a little beside that.
	for range 5000 {
		f := math.Abs(math.Float64frombits(r.next()))
		next := math.Nextafter(f, math.Inf(1))
		if math.IsNaN(f) || math.IsInf(next, 0) {
			continue
		}
		sum := new(big.Float).SetPrec(2200).Add(new(big.Float).SetFloat64(f), new(big.Float).SetFloat64(next))
		half := sum.Quo(sum, big.NewFloat(2)).Text('e', 1200)
		mantissa, exponent, _ := strings.Cut(half, "e")
		even := f
		if math.Float64bits(f)%2 == 1 {
			even = next
		}
		reads(t, half, numberOf(even))
		reads(t, mantissa+"1e"+exponent, numberOf(next))
	}
	for bits := range 1 << 16 {
		v := number.Of(uint16(bits))
		if f := math.Float64frombits(v.Bits); v.Kind == api.VFloat && !math.IsNaN(f) && !math.IsInf(f, 0) {
			reads(t, strconv.FormatFloat(f, 'f', -1, 64), v)
		}
	}
}

// P22.2: texts are what chapter 10 says of their literals.
func TestReadTexts(t *testing.T) {
	r := rule{2223}
	for range 3000 {
		s := r.text()
		literal := r.literal(s)
		readsEverywhere(t, literal, text(s))
		if got, err := escape.Unquote(literal); got != s || err != nil {
			t.Errorf("%q is %q, %v, as chapter 10 has it", literal, got, err)
		}
	}
	// What would be something else outside stands for itself in a literal.
	for _, s := range []string{"/", "//x", "[1, 2", "}", "h'00'", "'", " ", "a, b: c", "1(2)", "\x7f"} {
		readsEverywhere(t, `"`+s+`"`, text(s))
	}
}

// P22.2: bytes, with digits in either case.
func TestReadBytes(t *testing.T) {
	for b := range 256 {
		s := string([]byte{byte(b)})
		readsEverywhere(t, fmt.Sprintf("h'%02x'", b), raw(s))
		readsEverywhere(t, fmt.Sprintf("h'%02X'", b), raw(s))
		readsEverywhere(t, fmt.Sprintf("h'00%02xff%02X'", b, b), raw("\x00"+s+"\xff"+s))
	}
	reads(t, "h'aBcDeF'", raw("\xab\xcd\xef"))
	r := rule{2224}
	for range 3000 {
		s := r.bytes(40)
		reads(t, r.hex(s), raw(s))
	}
	for _, s := range []string{"h^", "h^\"", "h^ '00'", "h'^", "h'^g", "h'^x'", "h'^-1'", "h'^ 00'", "h'0^", "h'0^'", "h'0^ 0'", "h'0^g'", "h'000^'", "h'00^", "h'00^ '", "h'00^ 00'", "h'00^\"", "h'00^/x/'", "h''^'", "h'00'^0", "^H'00'", "^'00'"} {
		failsAt(t, s)
		failsAt(t, "["+s)
	}
}

// P22.2: lists and maps, with what may stand between.
func TestReadContainers(t *testing.T) {
	for _, s := range []string{"[]", "[ ]", "[/x/]", "[//\n//]", "[\t\r\n ]"} {
		readsEverywhere(t, s, list())
	}
	for _, s := range []string{"{}", "{ }", "{/x/}", "{//\n//}"} {
		readsEverywhere(t, s, object())
	}
	for _, s := range []string{"[1,2,3]", "[ 1 , 2 , 3 ]", "[/,/1/,/,/]/2,3]", "[1//,//2,\n3\n]", "[0x1,2.0,3e0]"} {
		readsEverywhere(t, s, list(num(1), num(2), num(3)))
	}
	for _, s := range []string{"{1:2,3:4}", "{3:4,1:2}", "{ 3 : 4 , 1 : 2 }", "{/:/3/}/:/,/4//,//1//://2//}", "{3\n:4\t,1\r:2\n}"} {
		readsEverywhere(t, s, object(num(1), num(2), num(3), num(4)))
	}
	readsEverywhere(t, "[[],[[]],{}]", list(list(), list(list()), object()))
	readsEverywhere(t, "{[]:{},{}:[]}", object(list(), object(), object(), list()))
	readsEverywhere(t, "{{{}:{}}:{{}:{}}}", object(object(object(), object()), object(object(), object())))
	for _, n := range []int{1, 2, 100, 5000} {
		reads(t, "["+strings.Repeat("null,", n-1)+"null]", list(slices.Repeat([]api.Value{null}, n)...))
	}
}

// P22.2: maps are in the order of their keys, whatever order they are written in.
func TestReadOrder(t *testing.T) {
	kids := []api.Value{}
	for _, key := range []api.Value{null, no, yes, num(-10), num(-1), num(0), num(1), num(10), float(minus), numberOf(-1.5), float(half3), float(plus), float(noNumber), text(""), text("a"), text("aa"), text("b"), text("é"), raw(""), raw("a"), raw("b"), list(), list(num(1)), list(num(1), num(0)), list(num(2)), object(), object(num(1), num(2)), tag(0, num(5)), tag(1, null), tag(1, num(0)), simple(0), simple(23), simple(32), ext(-128, "b"), ext(-1, "a"), ext(0, ""), ext(0, "a"), ext(127, "")} {
		kids = append(kids, key, num(int64(len(kids))))
	}
	r := rule{2225}
	for range 300 {
		m := &maker{rule: &r, wrong: -1}
		m.put(object(kids...))
		reads(t, m.String(), object(kids...))
	}
	// Rising and falling.
	for _, n := range []int{2, 3, 50, 3000} {
		var rising, falling []string
		want := object()
		for i := range n {
			rising = append(rising, fmt.Sprintf("%d:%d", i, 2*i))
			falling = append(falling, fmt.Sprintf("%d:%d", n-1-i, 2*(n-1-i)))
			want.Kids = append(want.Kids, num(int64(i)), num(int64(2*i)))
		}
		reads(t, "{"+strings.Join(rising, ",")+"}", want)
		reads(t, "{"+strings.Join(falling, ",")+"}", want)
	}
}

// P22.2: the numbers that tags may have, and those that none has.
func TestReadTags(t *testing.T) {
	for _, n := range []uint64{0, 1, 4, 5, 9, 10, 19, 20, 21, 22, 23, 24, 29, 30, 31, 32, 33, 39, 200, 255, 256, 300, 65535, 65536, 1<<32 - 1, 1 << 32, 1<<63 - 1, 1 << 63, 9999999999999999999, 10000000000000000000, 18446744073709551609, 1<<64 - 1} {
		digits := strconv.FormatUint(n, 10)
		readsEverywhere(t, digits+"(null)", tag(n, null))
		readsEverywhere(t, digits+"( /x/ 5 /y/ )", tag(n, num(5)))
		readsEverywhere(t, digits+"("+digits+"("+digits+"))", tag(n, tag(n, wholeOf(new(big.Int).SetUint64(n)))))
		for _, s := range []string{"-" + digits + "^(1)", digits + ".0^(1)", digits + "e0^(1)", "-0x1^(1)", fmt.Sprintf("0x%x^(1)", n), digits + " ^(1)", digits + "/x/^(1)", digits + "(^)", digits + "(1^,2)", digits + "(1 ^2)", digits + "(1^]", digits + "(^", digits + "(1^", digits + "(1 ^", digits + "(^()"} {
			failsAt(t, s)
			failsAt(t, "[4("+s)
		}
	}
	for _, digits := range []string{"2", "3", "18446744073709551616", "18446744073709551620", "18446744073709552000", "20000000000000000000", "99999999999999999999", "100000000000000000000", strings.Repeat("1", 300)} {
		failsAt(t, digits+"^(1)")
		failsAt(t, "[1, "+digits+"^(1)]")
		failsAt(t, "{"+digits+"^(1): 1}")
		failsAt(t, "4("+digits+"^(1))")
	}
	failsAt(t, "0^0(1)")
	failsAt(t, "0^1(1)")
	failsAt(t, "^(1)")
	failsAt(t, "1(1)^(1)")
	failsAt(t, "-0^(1)")
}

// P22.2: the numbers of simple values.
func TestReadSimple(t *testing.T) {
	for n := range 1100 {
		digits := strconv.Itoa(n)
		if n < 20 || n == 23 || n >= 32 && n <= 255 {
			readsEverywhere(t, "simple("+digits+")", simple(uint64(n)))
			fails(t, "simple("+digits, input, 7+len(digits))
			fails(t, "simple("+digits+" )", input, 7+len(digits))
			fails(t, "simple("+digits+"/x/)", input, 7+len(digits))
			fails(t, "simple("+digits+",", input, 7+len(digits))
		}
		for _, s := range []string{digits, digits + ")", digits + "]", "0" + digits + ")", "-" + digits + ")", " " + digits + ")", digits + ".0)", digits + "e0)", "0x" + digits + ")"} {
			sameAsReference(t, "simple("+s)
			sameAsReference(t, "[simple("+s)
		}
	}
	for _, s := range []string{"s^", "^Simple(1)", "simple^", "simple^1", "simple^ (1)", "simple(^", "simple(^ 1)", "simple(^)", "simple(^-1)", "simple(^+1)", "simple(0^0)", "simple(0^1)", "simple(0^x1)", "simple(2^6", "simple(3^0)", "simple(3^1)", "simple(25^6)", "simple(99^9)", "simple(20^)", "simple(21^)", "simple(22^)", "simple(24^)", "simple(25^)", "simple(1^(", "simple(1^.0)", "simple(1)^)"} {
		failsAt(t, s)
		failsAt(t, "[1,"+s)
	}
}

// P22.2: extensions, with what may stand between.
func TestReadExt(t *testing.T) {
	for n := -300; n <= 300; n++ {
		digits := strconv.Itoa(n)
		if n >= -128 && n <= 127 {
			readsEverywhere(t, "ext("+digits+",h'')", ext(int8(n), ""))
			readsEverywhere(t, "ext("+digits+" , h'0a' )", ext(int8(n), "\n"))
			readsEverywhere(t, "ext("+digits+"/,/,/h'/h'0A0b'\n//)", ext(int8(n), "\n\v"))
		}
		for _, s := range []string{digits, digits + ",", digits + ")", digits + ",h''", digits + ",h'')", "0" + digits + ",", "-" + digits + ",", " " + digits + ",", digits + ".0,", digits + "0,", digits + "(", digits + "x"} {
			sameAsReference(t, "ext("+s)
			sameAsReference(t, "{ext("+s)
		}
	}
	for _, s := range []string{"e^", "^Ext(", "ext^", "ext^ (1", "ext(^", "ext(^ 1", "ext(^/x/1", "ext(^)", "ext(^,", "ext(-^", "ext(-^ 1", "ext(-^,", "ext(-^0", "ext(0^0", "ext(0^1", "ext(12^8", "ext(-12^9", "ext(-128^0", "ext(13^0", "ext(-13^0", "ext(^+1", "ext(1^)", "ext(1 ^", "ext(1 ^)", "ext(1,^", "ext(1,^1)", "ext(1,^\"a\")", "ext(1,^)", "ext(1,^[])", "ext(1,h^", "ext(1,h^)", "ext(1,h'0^'", "ext(1,h'00'^", "ext(1,h'00' ^", "ext(1,h'00'^,", "ext(1,h'00' ^]", "ext(1^h'00')", "ext(1 ^h'00')", "ext(1,^,", "ext(1^.0,", "ext(1^(", "ext(1,h'00')^)"} {
		failsAt(t, s)
		failsAt(t, "{"+s)
	}
}
