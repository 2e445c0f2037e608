package cborread_test

import (
	"encoding/binary"
	"math"
	"math/big"
	"strings"
	"testing"

	"crucible/api"
	"crucible/cborread"
	"crucible/number"
)

// edges are the arguments about the edges of each width, about the powers of 2, and some others.
func edges() (out []uint64) {
	for n := range uint64(300) {
		out = append(out, n, 1<<16-150+n, 1<<32-150+n, 1<<63-150+n, 1<<64-1-n)
	}
	for bit := range 64 {
		out = append(out, 1<<bit-1, 1<<bit, 1<<bit+1)
	}
	return append(out, 0x0102030405060708, 0xfedcba9876543210)
}

// P20.1: major types 0 and 1, in heads of every length that has room.
func TestHeadIntegers(t *testing.T) {
	r := rule{2011}
	args := edges()
	for range 3000 {
		args = append(args, r.next()>>r.below(64))
	}
	for _, arg := range args {
		n := new(big.Int).SetUint64(arg)
		for _, s := range heads(0, arg) {
			reads(t, s, wholeOf(n))
		}
		n.Neg(n.Add(n, big.NewInt(1)))
		for _, s := range heads(1, arg) {
			reads(t, s, wholeOf(n))
		}
	}
}

// P20.1: tags 2 and 3 over bytes, in every form of either.
func TestGreatNumbers(t *testing.T) {
	for _, c := range []struct{ s, above, below string }{
		{"40", "0", "-1"}, {"41 00", "0", "-1"}, {"43 00 00 00", "0", "-1"}, {"41 01", "1", "-2"}, {"42 01 00", "256", "-257"}, {"58 02 01 00", "256", "-257"}, {"5b 00 00 00 00 00 00 00 01 ff", "255", "-256"},
		{"48 ff ff ff ff ff ff ff ff", "18446744073709551615", "-18446744073709551616"}, {"49 00 ff ff ff ff ff ff ff ff", "18446744073709551615", "-18446744073709551616"}, {"49 01 00 00 00 00 00 00 00 00", "18446744073709551616", "-18446744073709551617"}, {"4c ff ff ff ff ff ff ff ff ff ff ff ff", "79228162514264337593543950335", "-79228162514264337593543950336"},
		{"5f ff", "0", "-1"}, {"5f 40 40 ff", "0", "-1"}, {"5f 41 00 41 07 ff", "7", "-8"}, {"5f 58 01 01 42 00 00 ff", "65536", "-65537"}, {"5f 44 01 00 00 00 40 44 00 00 00 00 ff", "72057594037927936", "-72057594037927937"},
	} {
		for _, head := range heads(6, 2) {
			reads(t, head+of(c.s), whole(c.above))
		}
		for _, head := range heads(6, 3) {
			reads(t, head+of(c.s), whole(c.below))
		}
	}
	r := rule{2012}
	for range 3000 {
		digits := r.bytes(40)
		n := new(big.Int).SetBytes([]byte(digits))
		m := &maker{rule: &r}
		m.head(6, 2)
		m.string(2, digits)
		reads(t, m.String(), wholeOf(n))
		m = &maker{rule: &r}
		m.head(6, 3)
		m.string(2, digits)
		reads(t, m.String(), wholeOf(n.Not(n)))
	}
}

// P20.1: great numbers as long as a document has room for, with noughts ahead and in pieces too.
func TestGreatestNumbers(t *testing.T) {
	all := strings.Repeat("\xff", 1048570)
	n := new(big.Int).SetBytes([]byte(all))
	reads(t, "\xc2\x5a\x00\x0f\xff\xfa"+all, wholeOf(n))
	// One more than it carries through all limbs.
	reads(t, "\xc3\x5a\x00\x0f\xff\xfa"+all, wholeOf(new(big.Int).Not(n)))
	noughts := strings.Repeat("\x00", 1048569)
	reads(t, "\xc2\x5a\x00\x0f\xff\xfa"+noughts+"\x05", whole("5"))
	reads(t, "\xc3\x5a\x00\x0f\xff\xfa\x01"+noughts, wholeOf(n.Not(n.Lsh(big.NewInt(1), 8*1048569))))
	reads(t, "\xc2\x5f"+strings.Repeat("\x41\x80", 524286)+"\xff", wholeOf(n.SetBytes([]byte(strings.Repeat("\x80", 524286)))))
}

// P20.1: other tags over bytes are tags, whatever the bytes.
func TestTagsOverBytes(t *testing.T) {
	for _, n := range []uint64{0, 1, 4, 5, 24, 258, 259, 514, 1<<32 + 2, 1<<33 + 3, 1<<64 - 2} {
		for _, head := range heads(6, n) {
			reads(t, head+"\x41\x05", tag(n, raw("\x05")))
			reads(t, head+"\xc2\x41\x05", tag(n, whole("5")))
		}
	}
}

// P20.1: every pattern of 16 bits.
func TestHalves(t *testing.T) {
	for bits := range 65536 {
		reads(t, string(binary.BigEndian.AppendUint16([]byte{0xf9}, uint16(bits))), numberOf(half(uint16(bits))))
	}
}

// patterns are those of a width with an exponent of so many bits: every exponent with the fractions at its edges and some others.
func (r *rule) patterns(width, exponent int) (out []uint64) {
	fraction := width - 1 - exponent
	for e := range uint64(1) << exponent {
		for _, f := range []uint64{0, 1, 1 << (fraction - 1), 1<<fraction - 1, 1 << r.below(fraction), r.next() >> (64 - fraction), r.next() >> (64 - fraction) << r.below(fraction) & (1<<fraction - 1)} {
			out = append(out, e<<fraction|f, 1<<(width-1)|e<<fraction|f)
		}
	}
	return out
}

// P20.1: patterns of 32 and 64 bits, of every exponent.
func TestWiderFloats(t *testing.T) {
	r := rule{2013}
	for _, bits := range r.patterns(32, 8) {
		want := numberOf(float64(math.Float32frombits(uint32(bits))))
		reads(t, string(binary.BigEndian.AppendUint32([]byte{0xfa}, uint32(bits))), want)
		if v := number.Of(uint32(bits)); !same(v, want) {
			t.Errorf("number.Of(%08x) = %s", bits, show(v))
		}
	}
	for _, bits := range r.patterns(64, 11) {
		want := numberOf(math.Float64frombits(bits))
		reads(t, string(binary.BigEndian.AppendUint64([]byte{0xfb}, bits)), want)
		if v := number.Of(bits); !same(v, want) {
			t.Errorf("number.Of(%016x) = %s", bits, show(v))
		}
	}
}

// P20.3: a number is one value in all of its forms.
func TestNumberForms(t *testing.T) {
	for _, c := range []struct{ want, forms string }{
		{"0", "00, 18 00, 1b 00 00 00 00 00 00 00 00, c2 40, c2 41 00, c2 5f ff, f9 00 00, f9 80 00, fa 00 00 00 00, fa 80 00 00 00, fb 00 00 00 00 00 00 00 00, fb 80 00 00 00 00 00 00 00"},
		{"1", "01, 18 01, 19 00 01, 1a 00 00 00 01, 1b 00 00 00 00 00 00 00 01, c2 41 01, d8 02 41 01, db 00 00 00 00 00 00 00 02 42 00 01, f9 3c 00, fa 3f 80 00 00, fb 3f f0 00 00 00 00 00 00"},
		{"-1", "20, 38 00, 3b 00 00 00 00 00 00 00 00, c3 40, c3 41 00, d9 00 03 5f 40 ff, f9 bc 00, fa bf 80 00 00, fb bf f0 00 00 00 00 00 00"},
		{"65504", "19 ff e0, 1a 00 00 ff e0, c2 42 ff e0, f9 7b ff, fa 47 7f e0 00, fb 40 ef fc 00 00 00 00 00"},
		{"18446744073709551616", "c2 49 01 00 00 00 00 00 00 00 00, fa 5f 80 00 00, fb 43 f0 00 00 00 00 00 00"},
		{"-18446744073709551616", "3b ff ff ff ff ff ff ff ff, c3 48 ff ff ff ff ff ff ff ff, c3 49 00 ff ff ff ff ff ff ff ff, fa df 80 00 00, fb c3 f0 00 00 00 00 00 00"},
	} {
		for form := range strings.SplitSeq(c.forms, ", ") {
			reads(t, of(form), whole(c.want))
			// Any two of them are one key.
			for other := range strings.SplitSeq(c.forms, ", ") {
				failsAt(t, "a2 "+form+" 00 ^"+other+" 00")
			}
		}
	}
}

// P20.1: f8 and floats one byte short, and the simple values.
func TestSeventh(t *testing.T) {
	for n := range uint64(24) {
		want := simple(n)
		if n >= 20 && n < 23 {
			want = []api.Value{no, yes, null}[n-20]
		}
		reads(t, string([]byte{0xe0 + byte(n)}), want)
	}
	for n := range 256 {
		s := string([]byte{0xf8, byte(n)})
		if n < 32 {
			fails(t, s, input, 1)
			fails(t, s+"\x00", input, 1)
			fails(t, "\x82\x00"+s, input, 3)
			continue
		}
		reads(t, s, simple(uint64(n)))
	}
	for _, s := range []string{"^ fc", "^ fd", "^ fe", "^ ff", "f8 ^", "f9 ^", "f9 00 ^", "fa 00 00 00 ^", "fb 00 00 00 00 00 00 00 ^", "f4 ^ 00"} {
		failsAt(t, s)
	}
}

// R4: the limbs of a number are just its list.
func TestListsOfNumbers(t *testing.T) {
	for _, s := range []string{"00", "18 00", "1b 00 00 00 00 00 00 00 07", "1b 00 00 00 01 00 00 00 00", "20", "3b 00 00 00 00 00 00 00 00", "c2 49 00 00 00 00 00 00 00 00 01", "c3 40", "fb 40 00 00 00 00 00 00 00"} {
		v, err := cborread.Read(of(s))
		if n := len(v.Int.Mag); err != nil || n > 0 && v.Int.Mag[n-1] == 0 {
			t.Errorf("Read(%s) = %s, %v", s, show(v), err)
		}
	}
}
