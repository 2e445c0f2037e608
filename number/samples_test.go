package number_test

import (
	"math/big"
	"slices"

	"crucible/api"
	"crucible/ieee"
)

// edges are the sizes that the document names, and their neighbours.
func edges[T ieee.Bits]() []uint64 {
	k := kindOf[T]()
	normal, one, inf := uint64(1)<<k.fraction, uint64(k.taken-int(k.fraction))<<k.fraction, k.infinite()
	last := one + uint64(k.fraction)*normal // from here on every pattern is a whole number
	return []uint64{
		0, 1, 2, 3, normal/2 - 1, normal / 2, normal - 2, normal - 1, normal, normal + 1, 2*normal - 1, 2 * normal, 2*normal + 1,
		one - normal - 1, one - normal, one - 1, one, one + 1, one + normal/2 - 1, one + normal/2, one + normal/2 + 1, one + normal - 1, one + normal, one + normal + 1,
		last - normal - 1, last - normal, last - normal + 1, last - 2, last - 1, last, last + 1, last + normal - 1, last + normal, last + normal + 1,
		inf - normal - 1, inf - normal, inf - 2, inf - 1, inf, inf + 1, inf + normal/2 - 1, inf + normal/2, inf + normal/2 + 1, inf + normal - 1,
	}
}

// signs are the patterns of the sizes with each sign.
func signs[T ieee.Bits](sizes []uint64) []T {
	k := kindOf[T]()
	var out []T
	for _, size := range sizes {
		out = append(out, T(size), T(size+k.sign()))
	}
	return out
}

func few[T ieee.Bits]() []T { return signs[T](edges[T]()) }

// many are all patterns of 16 bits; of the others those with every exponent and some fractions, with few and with many noughts at the end.
func many[T ieee.Bits]() []T {
	k := kindOf[T]()
	var sizes []uint64
	if k.exponent == 5 {
		for size := range k.sign() {
			sizes = append(sizes, size)
		}
		return signs[T](sizes)
	}
	sizes = edges[T]()
	r := rule{uint64(k.fraction)}
	normal := uint64(1) << k.fraction
	for e := range uint64(1) << k.exponent {
		noughts := uint64(1) << r.below(int(k.fraction))
		for _, fraction := range []uint64{0, 1, normal / 2, normal - 1, r.next() % normal, r.next() % normal &^ (noughts - 1), normal - noughts} {
			sizes = append(sizes, e<<k.fraction+fraction)
		}
	}
	slices.Sort(sizes)
	return signs[T](slices.Compact(sizes))
}

// wholes are whole numbers that the widths just have, and just do not have.
func wholes() []api.Value {
	out := []api.Value{limbs(false)}
	for _, n := range []uint{0, 1, 2, 10, 11, 12, 15, 16, 17, 23, 24, 25, 31, 32, 33, 39, 40, 41, 52, 53, 54, 63, 64, 65, 96, 105, 106, 127, 128, 129, 970, 971, 1000, 1022, 1023, 1024, 1025, 2000} {
		for more := int64(-3); more <= 3; more++ {
			if n >= 3 || more == 0 {
				out = append(out, both(power(n, more))...)
			}
		}
	}
	// The greatest finite one of each width, a half of its last step more, and the least power of 2 beyond it.
	for _, k := range []kind{half, single, double} {
		step := uint(1<<(k.exponent-1)) - k.fraction - 1
		end := power(uint(1<<(k.exponent-1)), 0)
		top := new(big.Int).Sub(end, power(step, 0))
		between := new(big.Int).Add(top, power(step-1, 0))
		for _, n := range []*big.Int{top, between, end, new(big.Int).Sub(top, power(step, 0)), new(big.Int).Sub(top, power(step-1, 0))} {
			for _, more := range []int64{-1, 0, 1} {
				out = append(out, both(new(big.Int).Add(n, big.NewInt(more)))...)
			}
		}
	}
	return out
}

// floats are those of the patterns, of all widths, that may be as values.
func floats() []api.Value {
	bits := few[uint64]()
	for _, x := range few[uint16]() {
		y, _ := ieee.To[uint64](x)
		bits = append(bits, y-1, y, y+1)
	}
	for _, x := range few[uint32]() {
		y, _ := ieee.To[uint64](x)
		bits = append(bits, y-1, y, y+1)
	}
	slices.Sort(bits)
	var out []api.Value
	for _, x := range slices.Compact(bits) {
		if isNumber(float(x)) {
			out = append(out, float(x))
		}
	}
	return out
}

// others are values that may be, of every kind that is no number.
func others() []api.Value {
	one := limbs(false, 1)
	out := []api.Value{
		null(), {Kind: api.VBool}, {Kind: api.VBool, N: 1}, text(""), text("a"), text("1"), text("1.5"), {Kind: api.VBytes}, {Kind: api.VBytes, Text: "\x3c\x00"},
		{Kind: api.VList}, {Kind: api.VList, Kids: []api.Value{one}}, {Kind: api.VList, Kids: []api.Value{float(half3)}}, {Kind: api.VMap}, {Kind: api.VMap, Kids: []api.Value{one, one}},
		{Kind: api.VTag, Kids: []api.Value{one}}, {Kind: api.VTag, N: 1, Kids: []api.Value{float(half3)}}, {Kind: api.VSimple}, {Kind: api.VSimple, N: 1}, {Kind: api.VSimple, N: 255},
		{Kind: api.VExt}, {Kind: api.VExt, Ext: 5, Text: "abc"}, {Kind: api.VExt, Ext: -1},
	}
	deep := one
	for range api.MaxDepth {
		deep = api.Value{Kind: api.VList, Kids: []api.Value{deep}}
	}
	return append(out, deep)
}

// wrong are structs that may not be, most of them numbers but for one field.
func wrong() []api.Value {
	out := []api.Value{
		{}, {Kind: -1}, {Kind: -128}, {Kind: 12}, {Kind: 127}, {Bits: half3}, {Int: api.Int{Mag: api.Nat{1}}},
		limbs(true), limbs(false, 0), limbs(true, 0), limbs(false, 5, 0), limbs(true, 5, 0), limbs(false, 0, 0, 0), limbs(false, 1, 2, 3, 0, 0),
		{Kind: api.VBool, N: 2}, text("\xff"), {Kind: api.VTag, N: 2, Kids: []api.Value{limbs(false, 1)}}, {Kind: api.VSimple, N: 20},
	}
	for _, bits := range []uint64{0, 1 << 63, 0x3ff0000000000000, 0xbff0000000000000, 0x4330000000000000, 0x4340000000000001, greatest, greatest | 1<<63, noNum | 1<<63, noNum + 1, noNum - 1, plus + 1, minus + 1, 1<<63 - 1, 1<<64 - 1} {
		out = append(out, float(bits))
	}
	for _, v := range []api.Value{limbs(false), limbs(false, 1), limbs(true, 7, 8), float(half3), float(plus), float(minus), float(noNum), float(1)} {
		for _, fill := range []func(v *api.Value){
			func(v *api.Value) { v.N = 1 },
			func(v *api.Value) { v.N = 1 << 63 },
			func(v *api.Value) { v.Ext = 1 },
			func(v *api.Value) { v.Ext = -128 },
			func(v *api.Value) { v.Text = "a" },
			func(v *api.Value) { v.Kids = []api.Value{limbs(false, 1)} },
			func(v *api.Value) { v.Kids = []api.Value{{}} },
			func(v *api.Value) { v.Kind = 7 - v.Kind }, // each of the two kinds with the other one's fields
		} {
			w := v
			fill(&w)
			out = append(out, w)
		}
	}
	for _, v := range []api.Value{float(half3), float(plus), float(noNum)} {
		for _, x := range []api.Int{{Neg: true}, {Mag: api.Nat{1}}, {Mag: api.Nat{0}}} {
			v.Int = x
			out = append(out, v)
		}
	}
	for _, v := range []api.Value{limbs(false), limbs(false, 1), limbs(true, 7, 8)} {
		for _, bits := range []uint64{1, half3, 1 << 63, noNum} {
			v.Bits = bits
			out = append(out, v)
		}
	}
	return out
}

// anything is a value of the kinds above, or a number that looks like any.
func (r *rule) anything() api.Value {
	switch r.below(10) {
	case 0:
		return pick(r, others())
	case 1:
		return pick(r, wrong())
	case 2:
		return float(r.float64())
	case 3:
		return float(pick(r, few[uint64]()))
	case 4, 5:
		return valueOf(double.number(r.float64()))
	case 6:
		return ofBig(r.integer(1 + r.below(80)))
	case 7:
		return ofBig(r.integer(1 + r.below(1100)))
	case 8:
		return ofBig(big.NewInt(int64(r.below(9) - 4)))
	}
	return float(uint64(r.below(2))<<63 + half3 + uint64(r.below(8))<<50)
}
