package diag_test

import (
	"math"
	"math/big"
	"slices"
	"strings"
	"testing"

	"crucible/api"
	"crucible/number"
	"crucible/value"
)

// power is 2 to the power of n.
func power(n uint) api.Value { return wholeOf(new(big.Int).Lsh(big.NewInt(1), n)) }

// everywhere asks for a text by itself, in lists, in tags, as a key and behind one.
func everywhere(t *testing.T, v api.Value, want string) {
	t.Helper()
	shows(t, v, want)
	shows(t, list(v), "["+want+"]")
	shows(t, list(v, null, v), "["+want+", null, "+want+"]")
	shows(t, object(v, v), "{"+want+": "+want+"}")
	shows(t, tag(7, v), "7("+want+")")
	shows(t, list(object(list(v), list()), list()), "[{["+want+"]: []}, []]")
}

// P22.1: every kind, by its row of the table.
func TestShowKinds(t *testing.T) {
	everywhere(t, null, "null")
	everywhere(t, no, "false")
	everywhere(t, yes, "true")
	everywhere(t, list(), "[]")
	everywhere(t, object(), "{}")
	everywhere(t, list(num(1), num(2), num(3)), "[1, 2, 3]")
	everywhere(t, object(num(1), num(2), num(3), num(4), num(5), num(6)), "{1: 2, 3: 4, 5: 6}")
	everywhere(t, object(list(num(1), num(2)), object(num(3), num(4), num(5), num(6))), "{[1, 2]: {3: 4, 5: 6}}")
	everywhere(t, tag(0, tag(4, tag(1<<64-1, list(num(1), num(2))))), "0(4(18446744073709551615([1, 2])))")
	everywhere(t, tag(1<<32, object()), "4294967296({})")
	for n := range uint64(256) {
		switch {
		case n == 23:
			everywhere(t, simple(n), "undefined")
		case n < 20 || n >= 32:
			everywhere(t, simple(n), shown(simple(n)))
		default:
			refused(t, simple(n), arg, "")
		}
	}
	everywhere(t, simple(255), "simple(255)")
	everywhere(t, simple(19), "simple(19)")
	for n := range 256 {
		everywhere(t, ext(int8(n-128), ""), shown(ext(int8(n-128), "")))
	}
	everywhere(t, ext(-128, "\x00"), "ext(-128, h'00')")
	everywhere(t, ext(127, "\xff\x0a"), "ext(127, h'ff0a')")
	everywhere(t, ext(0, ""), "ext(0, h'')")
}

// P22.1: whole numbers, in base 10 up to 4096 binary digits, in base 16 from there on.
func TestShowWhole(t *testing.T) {
	for _, digits := range []string{"0", "1", "-1", "9", "10", "-10", "4294967295", "4294967296", "-4294967296", "18446744073709551615", "18446744073709551616", "-18446744073709551616", "340282366920938463463374607431768211456", "1000000000000000000000"} {
		everywhere(t, whole(digits), digits)
	}
	one := big.NewInt(1)
	for _, n := range []uint{31, 32, 33, 64, 1024, 4000, 4063, 4064, 4065, 4090, 4091, 4092, 4093, 4094, 4095, 4096, 4097, 4098, 4099, 4100, 4101, 4103, 4104, 4105, 4127, 4128, 4129, 5000, 8191, 8192, 8193, 100000} {
		for more := int64(-2); more <= 2; more++ {
			x := new(big.Int).Lsh(one, n)
			v := wholeOf(x.Add(x, big.NewInt(more)))
			shows(t, v, shownWhole(x))
			w := wholeOf(x.Neg(x))
			shows(t, w, shownWhole(x))
			shows(t, list(v, w), "["+shown(v)+", "+shown(w)+"]")
		}
	}
	greatest := new(big.Int).Sub(new(big.Int).Lsh(one, 4096), one)
	everywhere(t, wholeOf(greatest), greatest.String())
	everywhere(t, wholeOf(new(big.Int).Neg(greatest)), "-"+greatest.String())
	everywhere(t, wholeOf(new(big.Int).Add(greatest, one)), "0x1"+strings.Repeat("0", 1024))
	everywhere(t, whole("-0xabcdef0123456789"+strings.Repeat("f", 1024)), "-0xabcdef0123456789"+strings.Repeat("f", 1024))
	// An odd number of digits, and an even one.
	everywhere(t, whole("0xf"+strings.Repeat("0a", 512)), "0xf"+strings.Repeat("0a", 512))
	everywhere(t, whole("0x10"+strings.Repeat("0a", 512)), "0x10"+strings.Repeat("0a", 512))
}

// P22.1: floats, as ECMAScript tells them.
func TestShowFloats(t *testing.T) {
	for _, c := range []struct {
		f    float64
		want string
	}{
		{1.5, "1.5"}, {-1.5, "-1.5"}, {0.1, "0.1"}, {1e-6, "0.000001"}, {1e-7, "1e-7"}, {-1.25e-7, "-1.25e-7"}, {math.SmallestNonzeroFloat64, "5e-324"}, {4503599627370495.5, "4503599627370495.5"}, {1.0 / 3, "0.3333333333333333"}, {math.Inf(1), "Infinity"}, {math.Inf(-1), "-Infinity"}, {math.NaN(), "NaN"},
	} {
		everywhere(t, numberOf(c.f), c.want)
	}
	r := rule{2211}
	for range 20000 {
		v := r.float()
		shows(t, v, shown(v))
	}
	for bits := range 1 << 16 {
		v := number.Of(uint16(bits))
		shows(t, v, shown(v))
	}
}

// P22.1: texts and bytes.
func TestShowStrings(t *testing.T) {
	everywhere(t, text(""), `""`)
	everywhere(t, text(`a"b\c/`), `"a\"b\\c/"`)
	everywhere(t, text("\x00\b\t\n\v\f\r\x1f\x7f"), `"\u0000\b\t\n\u000b\f\r\u001f`+"\x7f\"")
	everywhere(t, text("é😀ﬀ\u2028\uffff"), "\"é😀ﬀ\u2028\uffff\"")
	everywhere(t, raw(""), "h''")
	everywhere(t, raw("\x00\x01\x0a\xa0\xff'"), "h'00010aa0ff27'")
	for c := range rune(256) {
		everywhere(t, text(string(c)), shownText(string(c)))
		everywhere(t, raw(string([]byte{byte(c)})), shown(raw(string([]byte{byte(c)}))))
	}
	for _, c := range points {
		everywhere(t, text("x"+string(c)+"y"), shownText("x"+string(c)+"y"))
	}
}

// P22.1: any value that may be.
func TestShowAny(t *testing.T) {
	r := rule{2212}
	for range 30000 {
		v := r.value(4)
		shows(t, v, shown(v))
	}
}

// P22.1, R6: what value.Check answers, ahead of all else, with the path of the node.
func TestShowRefused(t *testing.T) {
	for _, bad := range []api.Value{
		none, {Kind: 99}, {Kind: -1}, {Kind: api.VNull, N: 1}, {Kind: api.VBool, N: 2}, {Kind: api.VInt, Int: api.Int{Mag: api.Nat{5, 0}}}, {Kind: api.VInt, Int: api.Int{Neg: true}}, {Kind: api.VFloat, Bits: 0x3ff0000000000000}, {Kind: api.VFloat}, {Kind: api.VFloat, Bits: 1 << 63}, {Kind: api.VFloat, Bits: 0x7ff8000000000001},
		text("\xff"), text("\xed\xa0\x80"), {Kind: api.VText, Ext: 1}, {Kind: api.VBytes, Bits: 1}, object(null), object(num(1), null, num(1), null), object(text("b"), null, text("a"), null), tag(2, null), tag(3, raw("")), {Kind: api.VTag, N: 1}, {Kind: api.VTag, N: 1, Kids: []api.Value{null, null}}, simple(20), simple(22), simple(24), simple(31), simple(256), {Kind: api.VList, Text: "a"}, {Kind: api.VExt, N: 1}, {Kind: api.VSimple, N: 32, Text: "a"},
	} {
		refused(t, bad, arg, "")
		refused(t, list(num(1), bad), arg, "/1")
		refused(t, object(bad, null), arg, "/0")
		refused(t, list(null, object(null, tag(9, bad)), bad), arg, "/1/1/0")
		// It counts ahead of both limits.
		refused(t, list(nested(129, list()), bad), arg, "/1")
		refused(t, list(text(strings.Repeat("a", 1<<20)), bad), arg, "/1")
	}
	refused(t, nested(128, list()), limit, strings.Repeat("/0", 128))
	refused(t, list(num(0), nested(128, list())), limit, "/1"+strings.Repeat("/0", 127))
	// What is too deep counts ahead of what is too long.
	refused(t, list(raw(strings.Repeat("a", 1<<20)), nested(128, list())), limit, "/1"+strings.Repeat("/0", 127))
	r := rule{2213}
	for range 20000 {
		v := value.Copy(r.value(4))
		r.spoil(&v)
		err := value.Check(v)
		if err == nil {
			shows(t, v, shown(v))
			continue
		}
		e, _ := tells(err)
		refused(t, v, e.code, e.path)
	}
}

// spoil changes a field somewhere in a value.
func (r *rule) spoil(v *api.Value) {
	if len(v.Kids) > 0 && r.below(3) > 0 {
		r.spoil(&v.Kids[r.below(len(v.Kids))])
		return
	}
	switch r.below(8) {
	case 0:
		v.Kind = api.Kind(r.below(14) - 1)
	case 1:
		v.N = pick[uint64](r, 0, 1, 2, 3, 20, 24, 31, 32, 256)
	case 2:
		v.Int.Neg = !v.Int.Neg
	case 3:
		v.Int.Mag = append(v.Int.Mag, uint32(r.below(2)))
	case 4:
		v.Bits = pick[uint64](r, 0, half3, plus, noNumber, noNumber+1, 0x3ff0000000000000)
	case 5:
		v.Text = pick(r, "", "a", "\xff", "\xc3")
	case 6:
		v.Ext++
	case 7:
		v.Kids = append(v.Kids, null)
	}
}

// P22.1: a text of MaxBytes bytes, and of one more, whatever it is that has no room any more.
func TestShowLongest(t *testing.T) {
	if api.MaxBytes != 1048576 {
		t.Fatal("another limit")
	}
	filling := func(n int) api.Value { return text(strings.Repeat("b", n)) }
	for i, v := range []api.Value{null, no, yes, num(0), num(-1234567890), power(4095), power(4096), float(half3), float(minus), text(""), text("a\n"), raw(""), raw("abc"), list(), object(), list(null, num(2)), object(num(1), num(2)), tag(0, null), tag(1<<64-1, raw("a")), simple(0), undefined, simple(200), ext(-128, ""), ext(5, "ab"), nested(100, num(5)), nested(100, object(num(5), tag(1, num(6))))} {
		ways := []func(n int) api.Value{
			func(n int) api.Value { return list(filling(n), v) },
			func(n int) api.Value { return list(v, filling(n)) },
			func(n int) api.Value { return object(filling(n), v) },
			func(n int) api.Value { return list(v, list(v, tag(1, filling(n)), v)) },
		}
		for _, all := range []func(n int) api.Value{ways[0], ways[1+i%3]} {
			rest := 1048576 - len(shown(all(0)))
			before, behind, _ := strings.Cut(shown(all(1)), "b")
			shows(t, all(rest), before+strings.Repeat("b", rest)+behind)
			tooLong(t, all(rest+1))
			tooLong(t, all(rest+len(shown(v))))
		}
	}
}

// P22.1: one value whose text is just as long as may be, or one byte longer.
func TestShowOneLong(t *testing.T) {
	const most = 1048576
	shows(t, text(strings.Repeat("a", most-2)), `"`+strings.Repeat("a", most-2)+`"`)
	tooLong(t, text(strings.Repeat("a", most-1)))
	shows(t, text(strings.Repeat("\n", most/2-1)), `"`+strings.Repeat(`\n`, most/2-1)+`"`)
	tooLong(t, text(strings.Repeat("\n", most/2-1)+"a"))
	shows(t, raw(strings.Repeat("\x01", (most-3)/2)), "h'"+strings.Repeat("01", (most-3)/2)+"'")
	tooLong(t, raw(strings.Repeat("\x01", (most-3)/2+1)))
	digits := strings.Repeat("f", most-2)
	shows(t, whole("0x"+digits), "0x"+digits)
	tooLong(t, whole("0x"+digits+"f"))
	tooLong(t, whole("0x1"+digits))
	tooLong(t, whole("-0x"+digits))
	shows(t, whole("-0x"+digits[1:]), "-0x"+digits[1:])
	shows(t, ext(-128, strings.Repeat("\x01", (most-14)/2)), "ext(-128, h'"+strings.Repeat("01", (most-14)/2)+"')")
	tooLong(t, ext(-128, strings.Repeat("\x01", (most-14)/2+1)))
	shows(t, tag(1<<64-1, raw(strings.Repeat("\x01", (most-25)/2))), "18446744073709551615(h'"+strings.Repeat("01", (most-25)/2)+"')")
	tooLong(t, tag(1<<64-1, raw(strings.Repeat("\x01", (most-25)/2+1))))
	tooLong(t, list(slices.Repeat([]api.Value{null}, most/6+1)...))
	tooLong(t, nested(120, text(strings.Repeat("a", most-241))))
	shows(t, nested(120, text(strings.Repeat("a", most-242))), strings.Repeat("[", 120)+`"`+strings.Repeat("a", most-242)+`"`+strings.Repeat("]", 120))
}

// R1: far beyond what has a text, in time and without a panic.
func TestShowFarTooLong(t *testing.T) {
	mag := make(api.Nat, 1<<22)
	mag[len(mag)-1] = 1
	for _, v := range []api.Value{
		{Kind: api.VInt, Int: api.Int{Mag: mag}}, {Kind: api.VInt, Int: api.Int{Neg: true, Mag: mag}}, text(strings.Repeat("\x00", 1<<24)), raw(strings.Repeat("\x00", 1<<24)), ext(1, strings.Repeat("\x00", 1<<24)), list(slices.Repeat([]api.Value{float(1)}, 1<<20)...), list(slices.Repeat([]api.Value{power(4095)}, 1<<19)...), list(slices.Repeat([]api.Value{text(strings.Repeat("a", 1<<19))}, 1<<6)...), list(slices.Repeat([]api.Value{power(1 << 20)}, 1<<10)...),
	} {
		tooLong(t, v)
		tooLong(t, list(object(v, v)))
	}
}
