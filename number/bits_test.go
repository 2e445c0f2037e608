package number_test

import (
	"math/big"
	"slices"
	"testing"

	"crucible/api"
	"crucible/number"
)

func bitsAre(t *testing.T, v api.Value, want uint64, ok bool) {
	t.Helper()
	if got, is := number.Bits(v); got != want || is != ok {
		t.Errorf("Bits(%s) = %#x, %v, want %#x, %v", show(v), got, is, want, ok)
	}
}

func narrowIs(t *testing.T, v api.Value, width int, want uint64, ok bool) {
	t.Helper()
	if w, got, is := number.Narrow(v); w != width || got != want || is != ok {
		t.Errorf("Narrow(%s) = %d, %#x, %v, want %d, %#x, %v", show(v), w, got, is, width, want, ok)
	}
}

// P15.2: the chapter's examples.
func TestBitsKnown(t *testing.T) {
	bitsAre(t, num("1"), 0x3ff0000000000000, true)
	bitsAre(t, num("9007199254740993"), 0, false)
	bitsAre(t, num("0"), 0, true)
	bitsAre(t, ofBig(power(1023, 0)), 0x7fe0000000000000, true)
	bitsAre(t, ofBig(power(1024, 0)), 0, false)
	bitsAre(t, float(half3), half3, true)
	bitsAre(t, float(0x3ff0000000000000), 0, false)
	bitsAre(t, api.Value{Kind: api.VBool, N: 1}, 0, false)
}

// P15.2: whole numbers that a pattern has, and those next to them; what is infinite, and what is no number.
func TestBitsEdges(t *testing.T) {
	bitsAre(t, num("-1"), 0xbff0000000000000, true)
	bitsAre(t, num("9007199254740991"), 0x433fffffffffffff, true)
	bitsAre(t, num("9007199254740992"), 0x4340000000000000, true)
	bitsAre(t, num("9007199254740994"), 0x4340000000000001, true)
	bitsAre(t, num("-9007199254740993"), 0, false)
	bitsAre(t, num("-9007199254740994"), 0xc340000000000001, true)
	bitsAre(t, num("18446744073709551615"), 0, false)
	bitsAre(t, num("18446744073709551616"), 0x43f0000000000000, true)
	bitsAre(t, num("18446744073709551617"), 0, false)
	end, step := power(1024, 0), power(971, 0)
	top := new(big.Int).Sub(end, step)
	bitsAre(t, both(top)[0], greatest, true)
	bitsAre(t, both(top)[1], greatest|1<<63, true)
	// From the greatest one on no whole number has a pattern, whether the greatest or the infinite one is nearest to it.
	for _, n := range []*big.Int{new(big.Int).Add(top, big.NewInt(1)), new(big.Int).Add(top, power(970, -1)), new(big.Int).Add(top, power(970, 0)), power(1024, -1), end, power(1024, 1), power(5000, 0)} {
		for _, v := range both(n) {
			bitsAre(t, v, 0, false)
		}
	}
	bitsAre(t, float(plus), plus, true)
	bitsAre(t, float(minus), minus, true)
	bitsAre(t, float(noNum), noNum, true)
	bitsAre(t, float(1), 1, true)
	bitsAre(t, float(1<<63|1), 1<<63|1, true)
}

// P15.3: the chapter's examples.
func TestNarrowKnown(t *testing.T) {
	narrowIs(t, num("1"), 16, 0x3c00, true)
	narrowIs(t, num("2049"), 32, 0x45001000, true)
	narrowIs(t, num("16777217"), 64, 0x4170000010000000, true)
	narrowIs(t, num("65504"), 16, 0x7bff, true)
	narrowIs(t, num("65505"), 32, 0x477fe100, true)
	narrowIs(t, float(half3), 16, 0x3e00, true)
	narrowIs(t, float(0x3fb999999999999a), 64, 0x3fb999999999999a, true)
	narrowIs(t, float(minus), 16, 0xfc00, true)
	narrowIs(t, float(plus), 16, 0x7c00, true)
	narrowIs(t, float(noNum), 16, 0x7e00, true)
	narrowIs(t, ofBig(power(1024, 0)), 0, 0, false)
}

// P15.3: numbers at either end of each width's range.
func TestNarrowEdges(t *testing.T) {
	narrowIs(t, num("0"), 16, 0, true)
	narrowIs(t, num("-1"), 16, 0xbc00, true)
	narrowIs(t, num("2048"), 16, 0x6800, true)
	narrowIs(t, num("-2049"), 32, 0xc5001000, true)
	narrowIs(t, num("2050"), 16, 0x6801, true)
	narrowIs(t, num("65519"), 32, 0x477fef00, true)
	narrowIs(t, num("65520"), 32, 0x477ff000, true)
	narrowIs(t, num("-65536"), 32, 0xc7800000, true)
	narrowIs(t, num("16777216"), 32, 0x4b800000, true)
	narrowIs(t, num("16777218"), 32, 0x4b800001, true)
	narrowIs(t, num("9007199254740993"), 0, 0, false)
	single := new(big.Int).Sub(power(128, 0), power(104, 0))
	narrowIs(t, ofBig(single), 32, 0x7f7fffff, true)
	narrowIs(t, ofBig(new(big.Int).Add(single, power(103, 0))), 64, 0x47effffff0000000, true)
	narrowIs(t, ofBig(power(128, 0)), 64, 0x47f0000000000000, true)
	narrowIs(t, both(power(1023, 0))[1], 64, 0xffe0000000000000, true)
	// The least sizes: 2 to the power of -24 and -149, a half of them, and 1 more in the last place.
	narrowIs(t, float(0x3e70000000000000), 16, 1, true)
	narrowIs(t, float(0xbe70000000000000), 16, 0x8001, true)
	narrowIs(t, float(0x3e60000000000000), 32, 0x33000000, true)
	narrowIs(t, float(0x3e70000020000000), 32, 0x33800001, true)
	narrowIs(t, float(0x3e70000000000001), 64, 0x3e70000000000001, true)
	narrowIs(t, float(0x36a0000000000000), 32, 1, true)
	narrowIs(t, float(0xb6a0000000000000), 32, 0x80000001, true)
	narrowIs(t, float(0x3690000000000000), 64, 0x3690000000000000, true)
	narrowIs(t, float(0x36a0000000000001), 64, 0x36a0000000000001, true)
	narrowIs(t, float(1), 64, 1, true)
	narrowIs(t, float(1<<63|1), 64, 1<<63|1, true)
	// The greatest subnormal and the least normal ones.
	narrowIs(t, float(0x3f0ff80000000000), 16, 0x03ff, true)
	narrowIs(t, float(0x3f0ffc0000000000), 32, 0x387fe000, true)
	narrowIs(t, float(0x3f10000000000000), 16, 0x0400, true)
	narrowIs(t, float(0x380fffffc0000000), 32, 0x007fffff, true)
	narrowIs(t, float(0x380fffffe0000000), 64, 0x380fffffe0000000, true)
	narrowIs(t, float(0x3810000000000000), 32, 0x00800000, true)
	narrowIs(t, float(0x380fffffffffffff), 64, 0x380fffffffffffff, true)
}

// asReference holds Bits and Narrow of one value against P15.2 and P15.3 in their own words.
func asReference(t *testing.T, v api.Value) (width int) {
	t.Helper()
	bits, ok := wantBits(v)
	bitsAre(t, v, bits, ok)
	width, bits, ok = wantNarrow(v)
	narrowIs(t, v, width, bits, ok)
	return width
}

// P15.2, P15.3: numbers at the edges of the widths, and any.
func TestNumbers(t *testing.T) {
	r := rule{1521}
	all := slices.Concat(wholes(), floats())
	for range 3000 {
		all = append(all, valueOf(double.number(r.float64())), ofBig(r.integer(1+r.below(80))), ofBig(r.integer(1+r.below(1100))))
	}
	for x := range uint64(1 << 16) {
		if x%13 == 0 {
			all = append(all, valueOf(half.number(x)), valueOf(single.number(r.next()>>32)))
		}
	}
	seen := map[int]int{}
	for _, v := range all {
		seen[asReference(t, v)]++
		if t.Failed() {
			break
		}
	}
	if seen[0] < 500 || seen[16] < 500 || seen[32] < 500 || seen[64] < 500 {
		t.Errorf("looked at %v", seen)
	}
}

// P15.2, P15.3, R2: what is no number, and what may not be; nothing stands beside the false.
func TestNotNumbers(t *testing.T) {
	for _, v := range slices.Concat(others(), wrong()) {
		if isNumber(v) {
			t.Fatalf("%s is a number", show(v))
		}
		bitsAre(t, v, 0, false)
		narrowIs(t, v, 0, 0, false)
	}
}

// P15.2, P15.3: every pattern at the edges as a float: just those that may be are numbers.
func TestBitsOfPatterns(t *testing.T) {
	seen := map[bool]int{}
	for _, bits := range slices.Concat(few[uint64](), many[uint64]()) {
		v := float(bits)
		ok := isNumber(v)
		seen[ok]++
		if ok {
			bitsAre(t, v, bits, true)
		} else {
			bitsAre(t, v, 0, false)
			narrowIs(t, v, 0, 0, false)
		}
	}
	if seen[true] < 1000 || seen[false] < 1000 {
		t.Errorf("looked at %v", seen)
	}
}

// R4: a list that is empty but not nil is as one that is nil.
func TestEmptyLists(t *testing.T) {
	for _, v := range []api.Value{limbs(false), limbs(true, 3), float(half3), float(noNum)} {
		bits, ok := number.Bits(v)
		width, narrow, fine := number.Narrow(v)
		v.Kids = []api.Value{}
		if len(v.Int.Mag) == 0 {
			v.Int.Mag = make(api.Nat, 2)[:0]
		}
		bitsAre(t, v, bits, ok)
		narrowIs(t, v, width, narrow, fine)
		if !ok || !fine {
			t.Errorf("%s is a number", show(v))
		}
	}
}
