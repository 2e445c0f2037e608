package packread_test

import (
	"math"
	"math/big"
	"strings"
	"testing"

	"crucible/number"
	"crucible/packread"
)

// edges are numbers about the edges of each width, about the powers of 2, and some others.
func edges() (out []uint64) {
	for n := range uint64(300) {
		out = append(out, n, 1<<16-150+n, 1<<32-150+n, 1<<63-150+n, 1<<64-1-n, 1<<64-1<<15-150+n, 1<<64-1<<31-150+n)
	}
	for bit := range 64 {
		out = append(out, 1<<bit-1, 1<<bit, 1<<bit+1)
	}
	return append(out, 0x0102030405060708, 0xfedcba9876543210, 0x8090a0b0c0d0e0f0)
}

// P23.1: the numbers that are one byte.
func TestOneByte(t *testing.T) {
	for n := int64(-32); n <= 127; n++ {
		reads(t, string([]byte{byte(n)}), wholeOf(big.NewInt(n)))
	}
}

// P23.1: cc to cf and d0 to d3, whatever stands in their bytes.
func TestIntegers(t *testing.T) {
	r := rule{2311}
	all := edges()
	for range 5000 {
		all = append(all, r.next()>>r.below(64))
	}
	for _, n := range all {
		for i, want := range []uint64{uint64(uint8(n)), uint64(uint16(n)), uint64(uint32(n)), n} {
			reads(t, inBytes(0xcc+byte(i), 1<<i, n), wholeOf(new(big.Int).SetUint64(want)))
		}
		for i, want := range []int64{int64(int8(n)), int64(int16(n)), int64(int32(n)), int64(n)} {
			reads(t, inBytes(0xd0+byte(i), 1<<i, n), wholeOf(big.NewInt(want)))
		}
	}
	for n := range uint64(65536) {
		reads(t, inBytes(0xcd, 2, n), wholeOf(new(big.Int).SetUint64(n)))
		reads(t, inBytes(0xd1, 2, n), wholeOf(big.NewInt(int64(int16(n)))))
	}
}

// patterns are those of a width with an exponent of so many bits: every exponent with the fractions at its edges and some others.
func (r *rule) patterns(width, exponent int) (out []uint64) {
	fraction := width - 1 - exponent
	for e := range uint64(1) << exponent {
		for _, f := range []uint64{0, 1, 1 << (fraction - 1), 1<<fraction - 1, 1 << r.below(fraction), r.next() >> (64 - fraction), r.next() >> (64 - fraction) << r.below(fraction) & (1<<fraction - 1)} {
			out = append(out, e<<fraction|f, 1<<(width-1)|e<<fraction|f)
		}
	}
	return out
}

// P23.1: patterns of 32 and 64 bits, of every exponent.
func TestFloats(t *testing.T) {
	r := rule{2312}
	for _, bits := range r.patterns(32, 8) {
		want := numberOf(float64(math.Float32frombits(uint32(bits))))
		reads(t, inBytes(0xca, 4, bits), want)
		if v := number.Of(uint32(bits)); !same(v, want) {
			t.Errorf("number.Of(%08x) = %s", bits, show(v))
		}
	}
	for _, bits := range r.patterns(64, 11) {
		want := numberOf(math.Float64frombits(bits))
		reads(t, inBytes(0xcb, 8, bits), want)
		if v := number.Of(bits); !same(v, want) {
			t.Errorf("number.Of(%016x) = %s", bits, show(v))
		}
	}
}

// P23.1: one byte or more too few.
func TestNumbersCut(t *testing.T) {
	for first, wide := range map[byte]int{0xca: 4, 0xcb: 8, 0xcc: 1, 0xcd: 2, 0xce: 4, 0xcf: 8, 0xd0: 1, 0xd1: 2, 0xd2: 4, 0xd3: 8} {
		for n := range wide {
			for _, b := range []string{"\x00", "\xc1", "\xff"} {
				s := string([]byte{first}) + strings.Repeat(b, n)
				fails(t, s, input, 1+n)
				fails(t, "\x91"+s, input, 2+n)
			}
		}
		s := inBytes(first, wide, 1)
		fails(t, s+"\x00", input, 1+wide)
	}
}

// P23.3: a number is one value in all of its forms.
func TestNumberForms(t *testing.T) {
	for _, c := range []struct{ want, forms string }{
		{"0", "00, cc 00, cd 00 00, ce 00 00 00 00, cf 00 00 00 00 00 00 00 00, d0 00, d1 00 00, d2 00 00 00 00, d3 00 00 00 00 00 00 00 00, ca 00 00 00 00, ca 80 00 00 00, cb 00 00 00 00 00 00 00 00, cb 80 00 00 00 00 00 00 00"},
		{"1", "01, cc 01, cd 00 01, ce 00 00 00 01, cf 00 00 00 00 00 00 00 01, d0 01, d1 00 01, d2 00 00 00 01, d3 00 00 00 00 00 00 00 01, ca 3f 80 00 00, cb 3f f0 00 00 00 00 00 00"},
		{"-1", "ff, d0 ff, d1 ff ff, d2 ff ff ff ff, d3 ff ff ff ff ff ff ff ff, ca bf 80 00 00, cb bf f0 00 00 00 00 00 00"},
		{"128", "cc 80, cd 00 80, d1 00 80, ca 43 00 00 00"},
		{"-128", "d0 80, d1 ff 80, d2 ff ff ff 80, ca c3 00 00 00"},
		{"9223372036854775808", "cf 80 00 00 00 00 00 00 00, ca 5f 00 00 00, cb 43 e0 00 00 00 00 00 00"},
		{"-9223372036854775808", "d3 80 00 00 00 00 00 00 00, ca df 00 00 00, cb c3 e0 00 00 00 00 00 00"},
		{"18446744073709551616", "ca 5f 80 00 00, cb 43 f0 00 00 00 00 00 00"},
	} {
		for form := range strings.SplitSeq(c.forms, ", ") {
			reads(t, of(form), whole(c.want))
			// Any two of them are one key.
			for other := range strings.SplitSeq(c.forms, ", ") {
				failsAt(t, "82 "+form+" 00 ^"+other+" 00")
			}
		}
	}
}

// R4: the limbs of a number are just its list.
func TestListsOfNumbers(t *testing.T) {
	for _, s := range []string{"00", "cc 00", "cf 00 00 00 00 00 00 00 07", "cf 00 00 00 01 00 00 00 00", "d3 ff ff ff ff ff ff ff ff", "d3 00 00 00 00 00 00 00 00", "d0 80", "cb 40 00 00 00 00 00 00 00"} {
		v, err := packread.Read(of(s))
		if n := len(v.Int.Mag); err != nil || n > 0 && v.Int.Mag[n-1] == 0 {
			t.Errorf("Read(%s) = %s, %v", s, show(v), err)
		}
	}
}
