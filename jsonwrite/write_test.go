package jsonwrite_test

import (
	"math"
	"math/big"
	"slices"
	"strings"
	"testing"

	"crucible/api"
	"crucible/ecma"
	"crucible/escape"
	"crucible/jsonwrite"
	"crucible/number"
)

// everywhere asks for a text by itself, in lists, and behind keys.
func everywhere(t *testing.T, v api.Value, want string) {
	t.Helper()
	writes(t, v, want)
	writes(t, list(v), "["+want+"]")
	writes(t, list(v, num(0), v), "["+want+",0,"+want+"]")
	writes(t, object(text("a"), v), `{"a":`+want+"}")
	writes(t, list(object(text(""), v, text("b"), list(v))), `[{"":`+want+`,"b":[`+want+"]}]")
}

// P18.2 at what the document names.
func TestKnown(t *testing.T) {
	for _, c := range []struct {
		v    api.Value
		want string
	}{
		{null, "null"}, {yes, "true"}, {num(-3), "-3"}, {float(half3), "1.5"}, {whole("1000000000000000000000"), "1e+21"},
		{text("é\"\\/\n"), `"é\"\\/\n"`}, {text("\x00\x1f\x7f"), "\"\\u0000\\u001f\x7f\""}, {list(), "[]"}, {object(), "{}"}, {list(num(1), list(num(2), object())), "[1,[2,{}]]"},
		{object(text("a"), list(num(0)), text("b"), num(1)), `{"a":[0],"b":1}`}, {object(text("ﬀ"), num(1), text("😀"), num(2)), `{"😀":2,"ﬀ":1}`}, {whole("18446744073709551616"), "18446744073709552000"},
		{object(text("a"), list(num(100), num(0), num(1)), text("b"), num(1)), `{"a":[100,0,1],"b":1}`},
		{text("é😀/\n"), `"é😀/\n"`}, {object(text("é"), num(1), text("ﬀ"), num(2), text("😀"), num(3)), `{"é":1,"😀":3,"ﬀ":2}`}, {list(null, no, num(7)), "[null,false,7]"},
	} {
		everywhere(t, c.v, c.want)
	}
	writes(t, text(strings.Repeat("a", 1048574)), `"`+strings.Repeat("a", 1048574)+`"`)
}

// P18.2: every kind that JSON has by itself.
func TestKinds(t *testing.T) {
	everywhere(t, null, "null")
	everywhere(t, no, "false")
	everywhere(t, yes, "true")
	everywhere(t, num(7), "7")
	everywhere(t, float(0xbfe0000000000000), "-0.5")
	everywhere(t, text("x"), `"x"`)
	everywhere(t, text(""), `""`)
	everywhere(t, list(null), "[null]")
	everywhere(t, object(text("x"), null), `{"x":null}`)
	// Empty lists and nil mean the same.
	everywhere(t, api.Value{Kind: api.VList, Kids: []api.Value{}}, "[]")
	everywhere(t, api.Value{Kind: api.VMap, Kids: []api.Value{}}, "{}")
	everywhere(t, api.Value{Kind: api.VNull, Kids: []api.Value{}, Int: api.Int{Mag: api.Nat{}}}, "null")
	everywhere(t, api.Value{Kind: api.VInt, Int: api.Int{Mag: api.Nat{}}}, "0")
}

// bothSigns asks for a number above 0 and for 0 less it.
func bothSigns(t *testing.T, v api.Value, want string) {
	t.Helper()
	everywhere(t, v, want)
	if v.Kind == api.VFloat {
		v.Bits |= 1 << 63
	}
	v.Int.Neg = v.Kind == api.VInt
	everywhere(t, v, "-"+want)
}

// P18.2: whole numbers below and beyond 64 bits.
func TestWhole(t *testing.T) {
	everywhere(t, num(0), "0")
	for _, c := range [][2]string{
		{"1", "1"}, {"9", "9"}, {"10", "10"}, {"255", "255"}, {"65504", "65504"}, {"65536", "65536"}, {"16777216", "16777216"}, {"16777217", "16777217"}, {"4294967295", "4294967295"}, {"4294967296", "4294967296"},
		{"9007199254740991", "9007199254740991"}, {"9007199254740992", "9007199254740992"}, {"9007199254740994", "9007199254740994"}, {"9223372036854774784", "9223372036854775000"}, {"9223372036854775808", "9223372036854776000"}, {"18446744073709549568", "18446744073709550000"}, {"18446744073709551616", "18446744073709552000"}, {"18446744073709555712", "18446744073709556000"},
		{"100000000000000000000", "100000000000000000000"}, {"12345678901234567168", "12345678901234567000"}, {"999999999999999868928", "999999999999999900000"}, {"1000000000000000000000", "1e+21"}, {"1000000000000000131072", "1.0000000000000001e+21"}, {"10000000000000000000000", "1e+22"}, {"99999999999999991611392", "1e+23"}, {"123456789012345677877719597056", "1.2345678901234568e+29"},
		{"340282366920938463463374607431768211456", "3.402823669209385e+38"}, {"340282346638528859811704183484516925440", "3.4028234663852886e+38"},
	} {
		bothSigns(t, whole(c[0]), c[1])
	}
	bothSigns(t, numberOf(1e300), "1e+300")
	bothSigns(t, numberOf(math.MaxFloat64), "1.7976931348623157e+308")
	bothSigns(t, numberOf(math.Nextafter(math.MaxFloat64, 0)), "1.7976931348623155e+308")
	bothSigns(t, wholeOf(new(big.Int).Lsh(big.NewInt(1), 1023)), "8.98846567431158e+307")
}

// P18.1, P18.2: numbers that some pattern just has, and their neighbours, of which some are no pattern's.
func TestNeighbours(t *testing.T) {
	taken, refused := 0, 0
	for n := range uint(1030) {
		for more := int64(-3); more <= 3; more++ {
			x := new(big.Int).Lsh(big.NewInt(1), n)
			for _, v := range []api.Value{wholeOf(x.Add(x, big.NewInt(more))), wholeOf(x.Neg(x))} {
				sameAsReference(t, v)
				if _, err := jsonwrite.Write(v); err == nil {
					taken++
				} else {
					refused++
					fails(t, list(null, v), rep, "/1")
				}
			}
		}
	}
	if taken < 2000 || refused < 2000 {
		t.Errorf("%d taken, %d refused", taken, refused)
	}
	// The whole numbers around those of 53 bits: each, each second, each fourth.
	for _, c := range []struct {
		from string
		step int
	}{{"4503599627370496", 1}, {"9007199254740992", 2}, {"18014398509481984", 4}, {"9223372036854775808", 2048}, {"18446744073709551616", 4096}} {
		x, _ := new(big.Int).SetString(c.from, 10)
		for i := range 5000 {
			v := wholeOf(x)
			_, err := jsonwrite.Write(v)
			if (err == nil) != (i%c.step == 0) {
				t.Fatalf("Write(%s): %v", x, err)
			}
			x.Add(x, big.NewInt(1))
		}
	}
	// The greatest pattern, one more, a half of its last step more, and the power of 2 beyond it.
	greatest := bigOf(numberOf(math.MaxFloat64).Int)
	for _, more := range []*big.Int{big.NewInt(1), big.NewInt(-1), new(big.Int).Lsh(big.NewInt(1), 970), new(big.Int).Lsh(big.NewInt(1), 971)} {
		x := new(big.Int).Add(greatest, more)
		fails(t, wholeOf(x), rep, "")
		fails(t, wholeOf(x.Neg(x)), rep, "")
	}
	step := new(big.Int).Lsh(big.NewInt(1), 971)
	everywhere(t, wholeOf(step.Sub(greatest, step)), "1.7976931348623155e+308")
}

// P18.2: floats, of every width in which they may be.
func TestFloats(t *testing.T) {
	for _, c := range []struct {
		bits uint64
		want string
	}{
		{0x3fe0000000000000, "0.5"}, {half3, "1.5"}, {0x4004000000000000, "2.5"}, {0x3fb999999999999a, "0.1"}, {0x3fb999999999999b, "0.10000000000000002"}, {0x3fd3333333333334, "0.30000000000000004"}, {0x3fd5555555555555, "0.3333333333333333"}, {0x400921fb54442d18, "3.141592653589793"},
		{0x3eb0c6f7a0b5ed8d, "0.000001"}, {0x3eb0c6f7a0b5ed8c, "9.999999999999997e-7"}, {0x3e7ad7f29abcaf48, "1e-7"}, {0x40fe240c9fbe76c9, "123456.789"}, {0x432fffffffffffff, "4503599627370495.5"}, {0x3fefffffffffffff, "0.9999999999999999"}, {0x3ff0000000000001, "1.0000000000000002"},
		{1, "5e-324"}, {2, "1e-323"}, {3, "1.5e-323"}, {0x000fffffffffffff, "2.225073858507201e-308"}, {0x0010000000000000, "2.2250738585072014e-308"}, {0x0010000000000001, "2.225073858507202e-308"}, {0x3e70000000000000, "5.960464477539063e-8"}, {0x3f10000000000000, "0.00006103515625"}, {0x36a0000000000000, "1.401298464324817e-45"},
	} {
		bothSigns(t, float(c.bits), c.want)
	}
	// All finite patterns of 16 bits.
	for x := range 1 << 16 {
		if x&0x7c00 != 0x7c00 {
			sameAsReference(t, number.Of(uint16(x)))
		}
	}
	r := rule{1802}
	for range 8000 {
		sameAsReference(t, number.Of(keptFinite(uint32(r.next()), 0x7f800000)))
		sameAsReference(t, numberOf(r.finite()))
		v := r.number()
		sameAsReference(t, v)
		bits, _ := number.Bits(v)
		everywhere(t, v, ecma.Show(bits))
	}
	// Every exponent, with fractions that turn.
	for e := range uint64(0x7ff) {
		for _, fraction := range []uint64{0, 1, 1 << 51, 1<<52 - 1} {
			sameAsReference(t, number.Of(e<<52|fraction))
			sameAsReference(t, number.Of(1<<63|e<<52|fraction))
		}
	}
}

// P18.2: texts with every letter that is escaped and some that are not.
func TestTexts(t *testing.T) {
	for s, want := range map[string]string{
		"\"": `\"`, "\\": `\\`, "\b": `\b`, "\t": `\t`, "\n": `\n`, "\f": `\f`, "\r": `\r`, "\x00": `\u0000`, "\x01": `\u0001`, "\x07": `\u0007`, "\v": `\u000b`, "\x0e": `\u000e`, "\x0f": `\u000f`, "\x10": `\u0010`, "\x1a": `\u001a`, "\x1f": `\u001f`,
		" ": " ", "!": "!", "/": "/", "'": "'", "a": "a", "u": "u", "<": "<", ">": ">", "&": "&", "\x7f": "\x7f", "\u0080": "\u0080", "é": "é", "\u07ff": "\u07ff", "\u0800": "\u0800", "\u2028": "\u2028", "\u2029": "\u2029", "\ud7ff": "\ud7ff", "\ue000": "\ue000", "\ufeff": "\ufeff", "\ufffd": "\ufffd", "\uffff": "\uffff", "\U00010000": "\U00010000", "😀": "😀", "\U0010ffff": "\U0010ffff",
		`\n`: `\\n`, `\u0061`: `\\u0061`, `"a"`: `\"a\"`, "e\u0301": "e\u0301", "[1, 2]": "[1, 2]", "null": "null",
	} {
		everywhere(t, text(s), `"`+want+`"`)
		everywhere(t, text("a"+s+s+"b"), `"a`+want+want+`b"`)
		writes(t, object(text(s), text(s)), `{"`+want+`":"`+want+`"}`)
	}
	for c := range rune(0x3000) {
		sameAsReference(t, text(string(c)))
		sameAsReference(t, object(text(string(c)), null))
	}
	r := rule{1803}
	for range 5000 {
		s := r.text() + r.text()
		want, ok := escape.Quote(s)
		if !ok {
			t.Fatalf("%q", s)
		}
		everywhere(t, text(s), want)
		sameAsReference(t, text(s))
	}
}

// P18.2: lists and maps, empty ones and in one another.
func TestNested(t *testing.T) {
	for _, c := range []struct {
		v    api.Value
		want string
	}{
		{list(list()), "[[]]"}, {list(object()), "[{}]"}, {object(text(""), list()), `{"":[]}`}, {object(text(""), object()), `{"":{}}`}, {list(list(), list(), object(), list(list())), "[[],[],{},[[]]]"}, {list(num(1), num(2), num(3)), "[1,2,3]"}, {list(num(3), num(2), num(2), num(1)), "[3,2,2,1]"},
		{object(text("a"), object(text("b"), object(text("c"), list(null, object())))), `{"a":{"b":{"c":[null,{}]}}}`}, {object(text("a"), null, text("b"), null, text("c"), null), `{"a":null,"b":null,"c":null}`}, {list(object(text("b"), num(1)), object(text("a"), num(2))), `[{"b":1},{"a":2}]`},
	} {
		everywhere(t, c.v, c.want)
	}
	r := rule{1804}
	for range 20000 {
		sameAsReference(t, r.value(4, false))
	}
}

// P18.2: keys whose order by code units is another one than by bytes.
func TestKeys(t *testing.T) {
	for _, keys := range [][]string{
		// They rise by bytes, as a value has them.
		{"\ufb00", "😀"}, {"\ue000", "\U00010000"}, {"\uffff", "\U0010ffff"}, {"\ud7ff", "\ue000", "\U00010000", "\U0010ffff"}, {"a\uffff", "a\U00010000"}, {"\uffff\uffff", "\uffff\U00010000", "\U00010000\uffff", "\U00010000\U00010000"},
		{"", "a", "aa", "ab", "b"}, {"A", "B", "a", "b", "é", "ﬀ", "😀"}, {"1", "10", "2"}, {"\x00", "\x01", "\n", "\r", "\"", "\\", "\x7f"}, {"a", "a\x00", "a\uffff", "a\U00010000", "b"}, {"\u20ac", "\ufb33", "😀"},
	} {
		if !slices.IsSorted(keys) {
			t.Fatalf("%q do not rise by bytes", keys)
		}
		v := object()
		for i, key := range keys {
			v.Kids = append(v.Kids, text(key), num(int64(i)))
		}
		sameAsReference(t, v)
		sameAsReference(t, list(v, object(text("x"), v)))
	}
	writes(t, object(text("\ud7ff"), num(0), text("\ue000"), num(1), text("\U00010000"), num(2), text("\U0010ffff"), num(3)), "{\"\ud7ff\":0,\"\U00010000\":2,\"\U0010ffff\":3,\"\ue000\":1}")
	writes(t, object(text("\uffff\uffff"), num(0), text("\uffff\U00010000"), num(1), text("\U00010000\uffff"), num(2), text("\U00010000\U00010000"), num(3)), "{\"\U00010000\U00010000\":3,\"\U00010000\uffff\":2,\"\uffff\U00010000\":1,\"\uffff\uffff\":0}")
	// As RFC 8785 has it in its section on the order of properties.
	writes(t, object(text("\r"), text("Carriage Return"), text("1"), text("One"), text("\u0080"), text("Control"), text("ö"), text("Latin Small Letter O With Diaeresis"), text("€"), text("Euro Sign"), text("\ufb33"), text("Hebrew Letter Dalet With Dagesh"), text("😀"), text("Emoji: Grinning Face")),
		`{"\r":"Carriage Return","1":"One","`+"\u0080"+`":"Control","ö":"Latin Small Letter O With Diaeresis","€":"Euro Sign","😀":"Emoji: Grinning Face","`+"\ufb33"+`":"Hebrew Letter Dalet With Dagesh"}`)
	// By the keys themselves, not by how they are told: \ stands above Z, and \u0000 below all.
	writes(t, object(text("\x00"), num(0), text("\n"), num(1), text("!"), num(2), text("\""), num(3), text("Z"), num(4), text("\\"), num(5), text("a"), num(6)), `{"\u0000":0,"\n":1,"!":2,"\"":3,"Z":4,"\\":5,"a":6}`)
	r := rule{1805}
	turned := 0
	for range 5000 {
		v := r.object(2, false)
		for range 3 {
			v.Kids = append(v.Kids, text(string(rune(0xe000+r.below(0x2000)))+r.text()), num(1), text(string(rune(0x10000+r.below(0x100000)))+r.text()), num(2))
		}
		v = mapOf(v.Kids)
		sameAsReference(t, v)
		s, _ := jsonwrite.Write(v)
		var inBytes []string
		for i := 0; i < len(v.Kids); i += 2 {
			inBytes = append(inBytes, quoted(v.Kids[i].Text)+":"+written(v.Kids[i+1]))
		}
		if s != "{"+strings.Join(inBytes, ",")+"}" {
			turned++
		}
	}
	if turned < 1000 {
		t.Errorf("only %d of these differ from the order of bytes", turned)
	}
}
