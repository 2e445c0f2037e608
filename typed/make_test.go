package typed_test

import (
	"math"
	"math/big"
	"slices"
	"strconv"
	"strings"
	"testing"

	"crucible/api"
)

// P25.1: what each kind has, and what it has not, about its edges.
func TestEdgesOfKinds(t *testing.T) {
	for _, k := range kindsOf("us") {
		for _, edge := range []*big.Int{k.least(), k.most(), new(big.Int)} {
			for by := int64(-3); by <= 3; by++ {
				n := new(big.Int).Add(edge, big.NewInt(by))
				if !n.IsInt64() {
					continue
				}
				checkInts(t, []int64{n.Int64()}, k.elem)
				checkInts(t, []int64{5, n.Int64(), 6}, k.elem)
				if n.Cmp(k.least()) < 0 || n.Cmp(k.most()) > 0 {
					refusesInts(t, []int64{0, 1, n.Int64(), math.MinInt64}, k.elem, rep, "/2")
				}
			}
		}
		for shift := range 64 {
			for by := int64(-1); by <= 1; by++ {
				checkInts(t, []int64{1<<shift + by}, k.elem)
				checkInts(t, []int64{-1<<shift + by}, k.elem)
			}
		}
	}
}

// P25.1: all numbers of 8 and 16 bits, and more.
func TestAllSmallInts(t *testing.T) {
	for _, e := range []api.Elem{api.Uint8, api.Int8, api.Uint16, api.Int16} {
		for n := int64(-66000); n <= 66000; n++ {
			checkInts(t, []int64{n}, e)
		}
	}
}

// P25.1: the bytes, by hand.
func TestBytesOfInts(t *testing.T) {
	for _, c := range []struct {
		l      []int64
		e      api.Elem
		little bool
		tag    uint64
		bytes  string
	}{
		{[]int64{0, 127, 128, 255}, api.Uint8, false, 64, "007f80ff"}, {[]int64{0, 127, 128, 255}, api.Uint8, true, 64, "007f80ff"},
		{[]int64{1, 0x1234, 65535}, api.Uint16, false, 65, "00011234ffff"}, {[]int64{1, 0x1234, 65535}, api.Uint16, true, 69, "01003412ffff"},
		{[]int64{0x12345678, 4294967295}, api.Uint32, false, 66, "12345678ffffffff"}, {[]int64{0x12345678, 1}, api.Uint32, true, 70, "7856341201000000"},
		{[]int64{0x123456789abcdef0}, api.Uint64, false, 67, "123456789abcdef0"}, {[]int64{0x123456789abcdef0, 1}, api.Uint64, true, 71, "f0debc9a785634120100000000000000"},
		{[]int64{-128, -1, 0, 127}, api.Int8, false, 72, "80ff007f"}, {[]int64{-128, -1, 0, 127}, api.Int8, true, 72, "80ff007f"},
		{[]int64{-32768, -2, 32767}, api.Int16, false, 73, "8000fffe7fff"}, {[]int64{-32768, -2, 32767}, api.Int16, true, 77, "0080feffff7f"},
		{[]int64{-2147483648, 0x12345678}, api.Int32, false, 74, "8000000012345678"}, {[]int64{-2147483648, 0x12345678, -2}, api.Int32, true, 78, "0000008078563412feffffff"},
		{[]int64{math.MinInt64, -2}, api.Int64, false, 75, "8000000000000000fffffffffffffffe"}, {[]int64{math.MinInt64, math.MaxInt64}, api.Int64, true, 79, "0000000000000080ffffffffffffff7f"},
	} {
		makesInts(t, c.l, c.e, c.little, array(c.tag, c.bytes))
	}
	for _, k := range kindsOf("us") {
		for _, little := range orders {
			makesInts(t, nil, k.elem, little, array(k.tagOf(little), ""))
			makesInts(t, []int64{}, k.elem, little, array(k.tagOf(little), ""))
		}
	}
}

// P25.1, P25.2: ErrArg of a kind that may not be asked for, ahead of all else, whatever the numbers are.
func TestOtherKinds(t *testing.T) {
	for e := math.MinInt8; e <= math.MaxInt8; e++ {
		elem := api.Elem(e)
		if e < 1 || e > 8 {
			refusesInts(t, nil, elem, arg, "")
			refusesInts(t, []int64{0}, elem, arg, "")
			refusesInts(t, []int64{math.MinInt64, math.MaxInt64}, elem, arg, "")
		}
		if e < 9 || e > 11 {
			refusesFloats(t, nil, elem, arg, "")
			refusesFloats(t, []float64{0}, elem, arg, "")
			refusesFloats(t, []float64{0.1, math.NaN(), math.Inf(-1)}, elem, arg, "")
		}
	}
}

// P25.1, P25.2: the place is that of the first number, in decimal.
func TestPlaces(t *testing.T) {
	for _, at := range []int{0, 1, 7, 9, 10, 11, 99, 100, 101, 999, 1000, 12345, 100000} {
		path := "/" + strconv.Itoa(at)
		for _, k := range kindsOf("us") {
			if k.elem != api.Int64 {
				wrong := new(big.Int).Sub(k.least(), big.NewInt(1)).Int64()
				l := append(slices.Repeat([]int64{1}, at), wrong, 1, wrong)
				refusesInts(t, l, k.elem, rep, path)
			}
		}
		refusesFloats(t, append(slices.Repeat([]float64{1}, at), 1e300, 0.1), api.Float32, rep, path)
		refusesFloats(t, append(slices.Repeat([]float64{math.NaN()}, at), 65519, 0.1), api.Float16, rep, path)
	}
}

// P25.2: each pattern of 16 bits stands for its number, and nothing between two of them has one.
func TestAllHalves(t *testing.T) {
	for h := range 1 << 16 {
		bytes := string([]byte{byte(h >> 8), byte(h)})
		f := patternOf(bytes)
		want := bytes
		if f != f {
			want = "\x7e\x00"
		}
		makesFloats(t, []float64{f}, api.Float16, false, tag(80, raw(want)))
		makesFloats(t, []float64{f}, api.Float16, true, tag(84, raw(turned(want))))
		if f == f && !math.IsInf(f, 0) {
			for _, to := range []float64{math.Inf(1), math.Inf(-1)} {
				if f != 0 {
					refusesFloats(t, []float64{1, math.Nextafter(f, to)}, api.Float16, rep, "/1")
				}
			}
			// Halfway to the next one, away from 0.
			step := math.Ldexp(1, max(-24, math.Ilogb(f)-10))
			refusesFloats(t, []float64{1, 2, f + math.Copysign(step/2, f)}, api.Float16, rep, "/2")
		}
	}
}

// P25.2: of 32 and 64 bits, about the edges.
func TestEdgesOfFloats(t *testing.T) {
	for _, f := range []float64{math.MaxFloat32, math.SmallestNonzeroFloat32, 0x1p-126, 0x1.fffffcp-127, 1, 1.5, 16777216, 0x1.000002p0, 65504, 65520, 0x1p-24, 0x1p-25, 0x1p127} {
		for _, x := range []float64{f, -f} {
			v := numberOf(x)
			makesFloats(t, []float64{x}, api.Float64, false, tag(82, raw(string(big.NewInt(0).SetUint64(math.Float64bits(x)).FillBytes(make([]byte, 8))))))
			checkFloats(t, []float64{x, x}, api.Float32)
			for _, to := range []float64{math.Inf(1), math.Inf(-1)} {
				refusesFloats(t, []float64{0, x, math.Nextafter(x, to)}, api.Float32, rep, "/2")
			}
			readsFloats(t, list(v), x)
		}
	}
	for _, x := range []float64{math.MaxFloat64, 0x1p128, math.MaxFloat32 + 0x1p103, 0x1p-150, math.SmallestNonzeroFloat64, 16777217, 0.1} {
		refusesFloats(t, []float64{x}, api.Float32, rep, "/0")
		refusesFloats(t, []float64{-x}, api.Float32, rep, "/0")
		refusesFloats(t, []float64{x}, api.Float16, rep, "/0")
		refusesFloats(t, []float64{-x}, api.Float16, rep, "/0")
		checkFloats(t, []float64{x, -x}, api.Float64)
	}
}

// P25.2: infinite ones, noughts with their signs, and the one pattern of no number, whatever float it was.
func TestSpecialFloats(t *testing.T) {
	l := []float64{0, below, math.Inf(1), math.Inf(-1), math.NaN()}
	for _, bits := range []uint64{0x7ff0000000000001, 0xfff0000000000001, 0xfff8000000000000, 0x7fffffffffffffff, 0xffffffffffffffff, 0x7ff8000000000001, 0x7ff0000020000000, 0xfff0040000000000} {
		l = append(l, math.Float64frombits(bits))
	}
	for _, c := range []struct {
		e                     api.Elem
		tag, little           uint64
		zeroes, infinite, nan string
	}{
		{api.Float16, 80, 84, "0000 8000", "7c00 fc00", "7e00"},
		{api.Float32, 81, 85, "00000000 80000000", "7f800000 ff800000", "7fc00000"},
		{api.Float64, 82, 86, "0000000000000000 8000000000000000", "7ff0000000000000 fff0000000000000", "7ff8000000000000"},
	} {
		want := of(c.zeroes + c.infinite + strings.Repeat(c.nan, 9))
		makesFloats(t, l, c.e, false, tag(c.tag, raw(want)))
		size, little := len(c.nan)/2, ""
		for i := 0; i < len(want); i += size {
			little += turned(want[i : i+size])
		}
		makesFloats(t, l, c.e, true, tag(c.little, raw(little)))
		for _, order := range orders {
			makesFloats(t, nil, c.e, order, tag(map[bool]uint64{false: c.tag, true: c.little}[order], raw("")))
		}
	}
}

// P25.1, P25.2: any numbers.
func TestManyMade(t *testing.T) {
	r := rule{2502}
	for range 20000 {
		k := pick(&r, kindsOf("us")...)
		checkInts(t, r.numbers(k, r.below(8)), k.elem)
		checkInts(t, r.numbers(k, r.below(8)), pick(&r, kinds...).elem)
		l := r.floats(r.below(8))
		for _, k := range kindsOf("f") {
			checkFloats(t, l, k.elem)
			if len(l) > 0 {
				checkFloats(t, l[:1], k.elem)
			}
		}
	}
}
