package typed_test

import (
	"encoding/binary"
	"math"
	"math/big"
	"strconv"
	"strings"
	"testing"

	"crucible/api"
)

// P25.3, P25.4, P25.6: all elements of 8 and 16 bits, in both orders of bytes.
func TestAllSmallElements(t *testing.T) {
	for _, k := range kinds {
		if k.size > 2 {
			continue
		}
		for x := range 1 << (8 * k.size) {
			bytes := string(binary.BigEndian.AppendUint16(nil, uint16(x)))[2-k.size:]
			sameAsReference(t, tag(k.tag, raw(bytes)))
			sameAsReference(t, tag(k.little, raw(turned(bytes))))
			sameAsReference(t, tag(k.tag, raw(strings.Repeat("\x00", k.size)+bytes+bytes)))
		}
	}
	for x := range 256 {
		sameAsReference(t, tag(68, raw(string([]byte{byte(x), 0}))))
	}
}

// P25.3, P25.4, P25.6: elements of 32 and 64 bits about each power of 2.
func TestGreatElements(t *testing.T) {
	for _, k := range kinds {
		for shift := range 8 * k.size {
			for by := -3; by <= 3; by++ {
				for _, low := range []uint64{0, ^uint64(0)} {
					x := uint64(1)<<shift + uint64(by)
					bytes := string(binary.BigEndian.AppendUint64(nil, x^low))[8-k.size:]
					sameAsReference(t, tag(k.tag, raw(bytes)))
					sameAsReference(t, tag(k.little, raw(turned(bytes))))
				}
			}
		}
	}
}

// P25.3: whole numbers of each kind, by hand.
func TestKnownInt64s(t *testing.T) {
	readsInts(t, array(64, "00 7f 80 ff"), 0, 127, 128, 255)
	readsInts(t, array(68, "00 7f 80 ff"), 0, 127, 128, 255)
	readsInts(t, array(65, "8000 1234"), 32768, 0x1234)
	readsInts(t, array(69, "0080 3412"), 32768, 0x1234)
	readsInts(t, array(66, "80000000 ffffffff"), 2147483648, 4294967295)
	readsInts(t, array(70, "00000080 feffffff"), 2147483648, 4294967294)
	readsInts(t, array(67, "7fffffffffffffff 0000000000000001"), math.MaxInt64, 1)
	readsInts(t, array(71, "ffffffffffffff7f 0100000000000000"), math.MaxInt64, 1)
	readsInts(t, array(72, "80 ff 00 7f"), -128, -1, 0, 127)
	readsInts(t, array(73, "8000 ffff 7fff"), -32768, -1, 32767)
	readsInts(t, array(77, "0080 feff ff7f"), -32768, -2, 32767)
	readsInts(t, array(74, "80000000 ffffffff 7fffffff"), -2147483648, -1, 2147483647)
	readsInts(t, array(78, "00000080 feffffff ffffff7f"), -2147483648, -2, 2147483647)
	readsInts(t, array(75, "8000000000000000 ffffffffffffffff"), math.MinInt64, -1)
	readsInts(t, array(79, "0000000000000080 feffffffffffffff"), math.MinInt64, -2)
	readsInts(t, array(80, "8000 0000 3c00 fbff 7bff"), 0, 0, 1, -65504, 65504)
	readsInts(t, array(81, "80000000 4f000000 df000000 5effffff"), 0, 2147483648, -9223372036854775808, 9223371487098961920)
	readsInts(t, array(86, "0000000000000080 000000000000e0c3 ffffffffffffdf43"), 0, -9223372036854775808, 9223372036854774784)
	for _, v := range []api.Value{
		array(67, "8000000000000000"), array(71, "0000000000000080"), array(67, "ffffffffffffffff"), array(80, "7c00"), array(80, "fc00"), array(80, "7e00"), array(80, "0001"), array(81, "5f000000"), array(81, "df000001"), array(81, "3f000000"), array(81, "ff800000"), array(81, "7f800001"),
		array(82, "43e0000000000000"), array(82, "c3e0000000000001"), array(82, "3fb999999999999a"), array(82, "7ff0000000000000"), array(82, "7ff8000000000001"), array(82, "8000000000000001"),
	} {
		noInts(t, v, rep, "/0")
	}
}

// P25.3, P25.4: the numbers of lists, about the edges.
func TestLists(t *testing.T) {
	readsInts(t, list(num(math.MaxInt64), num(math.MinInt64), num(0)), math.MaxInt64, math.MinInt64, 0)
	noInts(t, list(num(5), whole("9223372036854775808")), rep, "/1")
	noInts(t, list(num(5), num(6), whole("-9223372036854775809"), null), rep, "/2")
	noInts(t, list(whole("123456789012345678901234567890")), rep, "/0")
	readsFloats(t, list(num(math.MinInt64), num(9007199254740992), num(9007199254740994)), math.MinInt64, 9007199254740992, 9007199254740994)
	noFloats(t, list(num(0), num(math.MaxInt64)), rep, "/1")
	noFloats(t, list(num(-9007199254740993)), rep, "/0")
	readsFloats(t, list(whole("18446744073709551616"), whole("9223372036854775808"), numberOf(1e300), numberOf(-math.MaxFloat64)), 0x1p64, 0x1p63, 1e300, -math.MaxFloat64)
	great := new(big.Int).Lsh(big.NewInt(1), 1024)
	noFloats(t, list(wholeOf(great)), rep, "/0")
	noFloats(t, list(wholeOf(great.Neg(great))), rep, "/0")
	noFloats(t, list(whole("18446744073709551617")), rep, "/0")
	readsFloats(t, list(float(plus), float(minus), float(noNumber), float(1), float(0x3fb999999999999a)), math.Inf(1), math.Inf(-1), math.NaN(), math.SmallestNonzeroFloat64, 0.1)
	readsFloats(t, list())
	for _, x := range []float64{1.5, 0.1, math.Inf(1), math.Inf(-1), math.NaN(), -1e-300} {
		noInts(t, list(num(1), numberOf(x)), rep, "/1")
	}
	for _, v := range []api.Value{null, no, yes, text("1"), text(""), raw("\x01"), list(), list(num(1)), object(), object(num(1), num(2)), tag(1, num(1)), array(64, "01"), simple(0), {Kind: api.VExt, Ext: 1}} {
		noInts(t, list(num(1), v, num(2)), rep, "/1")
		noFloats(t, list(num(1), v, num(2)), rep, "/1")
		noComplexes(t, list(list(num(1)), list(v)), rep, "/1/0")
	}
}

// P25.4: floats of each kind, by hand.
func TestKnownFloat64s(t *testing.T) {
	readsFloats(t, array(64, "00ff"), 0, 255)
	readsFloats(t, array(72, "80ff"), -128, -1)
	readsFloats(t, array(77, "0080 feff"), -32768, -2)
	readsFloats(t, array(74, "80000000 7fffffff"), -2147483648, 2147483647)
	readsFloats(t, array(75, "8000000000000000 0020000000000000"), math.MinInt64, 9007199254740992)
	readsFloats(t, array(67, "8000000000000000 fffffffffffff800 0020000000000000"), 0x1p63, 18446744073709549568, 9007199254740992)
	readsFloats(t, array(80, "8000 0000 0001 7bff fc00 7e01 3e00"), below, 0, 0x1p-24, 65504, math.Inf(-1), math.NaN(), 1.5)
	readsFloats(t, array(84, "0080 0100 007c"), below, 0x1p-24, math.Inf(1))
	readsFloats(t, array(81, "80000000 00000001 3dcccccd 7f800001 7f7fffff"), below, math.SmallestNonzeroFloat32, float64(float32(0.1)), math.NaN(), math.MaxFloat32)
	readsFloats(t, array(85, "00000080 01000080 cdcccc3d"), below, -math.SmallestNonzeroFloat32, float64(float32(0.1)))
	readsFloats(t, array(82, "8000000000000000 0000000000000001 fff0000000000001"), below, math.SmallestNonzeroFloat64, math.NaN())
	readsFloats(t, array(86, "0000000000000080 9a9999999999b93f"), below, 0.1)
	for _, v := range []api.Value{
		array(67, "0020000000000001"), array(67, "ffffffffffffffff"), array(67, "fffffffffffffc00"), array(67, "8000000000000001"), array(67, "8000000000000400"), array(71, "0100000000000080"),
		array(75, "0020000000000001"), array(75, "7fffffffffffffff"), array(75, "8000000000000001"), array(79, "ffffffffffffdfff"),
	} {
		noFloats(t, v, rep, "/0")
	}
}

// P25.3, P25.4: the place is that of the first element that is not what is asked for, in decimal.
func TestPlacesOfElements(t *testing.T) {
	for _, at := range []int{0, 1, 9, 10, 11, 99, 100, 101, 1000, 54321} {
		path := "/" + strconv.Itoa(at)
		noInts(t, tag(80, raw(strings.Repeat("\x3c\x00", at)+"\x3e\x00\x3c\x00\x3e\x00")), rep, path)
		noInts(t, tag(71, raw(strings.Repeat("\x01\x00\x00\x00\x00\x00\x00\x7f", at)+strings.Repeat("\xff", 24))), rep, path)
		noFloats(t, tag(67, raw(strings.Repeat("\x01\x00\x00\x00\x00\x00\x00\x00", at)+strings.Repeat("\xff", 24))), rep, path)
		var kids []api.Value
		for range at {
			kids = append(kids, num(1))
		}
		l := list(append(kids, null, num(1), text(""))...)
		noInts(t, l, rep, path)
		noFloats(t, l, rep, path)
		noComplexes(t, list(l, num(1)), rep, "/0"+path)
		noComplexes(t, list(array(64, "01"), l), rep, "/1"+path)
	}
}

// P25.5: complex numbers, their parts told by patterns.
func TestComplexes(t *testing.T) {
	inf, nan := math.Inf(1), math.NaN()
	for _, l := range [][]complex128{
		nil, {}, {0}, {complex(below, below)}, {complex(0, below), complex(below, 0)}, {complex(inf, -inf), complex(nan, inf), complex(-inf, nan), complex(nan, nan), complex(nan, 1), complex(below, nan)},
		{complex(math.Float64frombits(0xfff0000000000001), math.Float64frombits(0x7fffffffffffffff))}, {complex(0.1, 1e300), complex(math.SmallestNonzeroFloat64, -math.MaxFloat64), 3},
	} {
		checkComplexes(t, l)
		readsComplexes(t, wantComplexes(l), l...)
	}
	readsComplexes(t, list(list(), list()))
	readsComplexes(t, list(array(80, ""), list()))
	readsComplexes(t, list(array(64, "0102"), list(float(half3), float(noNumber))), complex(1, 1.5), complex(2, nan))
	readsComplexes(t, list(array(84, "0080 007c"), array(81, "80000000 3f800000")), complex(below, below), complex(inf, 1))
	r := rule{2503}
	for range 10000 {
		checkComplexes(t, r.complexes(r.below(8)))
	}
}

// P25.5: what is no complex numbers.
func TestNoComplexes(t *testing.T) {
	one, array1 := list(num(1)), array(64, "01")
	for _, v := range []api.Value{null, num(1), text(""), raw(""), list(), list(one), list(one, one, one), list(array1, array1, array1), list(num(1), num(2), num(3)), object(), object(one, one), object(num(0), one, num(1), one), array(64, "0102"), array(80, "3c003c00"), tag(1, list(one, one)), simple(0)} {
		noComplexes(t, v, rep, "")
	}
	// The first part's error counts ahead of the second's, and both ahead of how many there are.
	for _, c := range []struct {
		first, second api.Value
		path          string
	}{
		{num(1), num(2), "/0"}, {num(1), one, "/0"}, {one, num(1), "/1"}, {array(65, "00"), one, "/0"}, {one, array(65, "00"), "/1"}, {array(76, ""), one, "/0"}, {one, tag(64, list()), "/1"}, {one, object(), "/1"},
		{list(null), list(null), "/0/0"}, {list(num(1), null), one, "/0/1"}, {one, list(num(1), null), "/1/1"}, {one, list(null, num(1)), "/1/0"}, {list(num(1), num(2), text("")), num(1), "/0/2"}, {one, list(list(num(1))), "/1/0"}, {list(one), list(one), "/0/0"},
		{array(67, "0000000000000000 ffffffffffffffff"), one, "/0/1"}, {one, array(67, "ffffffffffffffff 00"), "/1"}, {one, array(67, "ffffffffffffffff"), "/1/0"}, {list(num(9007199254740993)), num(1), "/0/0"},
		{one, list(), "/1"}, {list(), one, "/1"}, {one, list(num(1), num(2)), "/1"}, {array(64, "0102"), array1, "/1"}, {array(64, "0102"), array(65, "0102"), "/1"}, {array(82, ""), array1, "/1"},
	} {
		noComplexes(t, list(c.first, c.second), rep, c.path)
	}
}

// P25.6: the elements of each kind as values, by hand.
func TestPlain(t *testing.T) {
	for _, k := range kinds {
		isPlain(t, tag(k.tag, raw("")), list())
		isPlain(t, tag(k.little, raw("")), list())
		isPlain(t, tag(k.tag, raw(strings.Repeat("\x00", 3*k.size))), list(num(0), num(0), num(0)))
	}
	isPlain(t, array(68, ""), list())
	isPlain(t, array(68, "ff01"), list(num(255), num(1)))
	isPlain(t, array(64, "ff01"), list(num(255), num(1)))
	isPlain(t, array(65, "ffff0100"), list(num(65535), num(256)))
	isPlain(t, array(69, "ffff0100"), list(num(65535), num(1)))
	isPlain(t, array(67, "ffffffffffffffff 0000000100000000 00000000ffffffff"), list(whole("18446744073709551615"), num(4294967296), num(4294967295)))
	isPlain(t, array(71, "0000000000000080 0000000001000000"), list(whole("9223372036854775808"), num(4294967296)))
	isPlain(t, array(72, "80ff7f"), list(num(-128), num(-1), num(127)))
	isPlain(t, array(77, "0080 feff"), list(num(-32768), num(-2)))
	isPlain(t, array(74, "80000000 fffffffe"), list(num(-2147483648), num(-2)))
	isPlain(t, array(75, "8000000000000000 ffffffff00000000"), list(num(math.MinInt64), num(-4294967296)))
	isPlain(t, array(80, "7c00 fc00 fe00 0001 7bff 3c00"), list(float(plus), float(minus), float(noNumber), numberOf(0x1p-24), num(65504), num(1)))
	isPlain(t, array(81, "7f800000 ffc00001 00000001 7f7fffff 80000000"), list(float(plus), float(noNumber), numberOf(0x1p-149), numberOf(math.MaxFloat32), num(0)))
	isPlain(t, array(86, "000000000000f07f 010000000000f07f 0100000000000000 0000000000000080"), list(float(plus), float(noNumber), float(1), num(0)))
	isPlain(t, array(82, "7fefffffffffffff"), list(numberOf(math.MaxFloat64)))
}

// P25.3 to P25.6: anything.
func TestManyRead(t *testing.T) {
	r := rule{2504}
	for range 40000 {
		sameAsReference(t, r.anything())
		sameAsReference(t, r.array(r.below(8)))
		sameAsReference(t, r.list(r.below(8)))
	}
}
