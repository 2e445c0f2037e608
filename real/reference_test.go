package real_test

import (
	"math"
	"slices"
)

// rule makes numbers that look like chance, the same at every run.
type rule struct {
	at uint64
}

func (r *rule) next() uint64 {
	r.at += 0x9e3779b97f4a7c15
	z := r.at
	z = (z ^ z>>30) * 0xbf58476d1ce4e5b9
	z = (z ^ z>>27) * 0x94d049bb133111eb
	return z ^ z>>31
}

// rising are patterns of sizes, finite and infinite, in their order: 0, the ends of each class, and some between.
func rising() []uint64 {
	return []uint64{
		0,
		1, 2, 0x000fffffffffffff,
		0x0010000000000000, 0x0010000000000001, 0x369fffffffffffff, 0x36a0000000000000, 0x3e60000000000000, 0x3fe0000000000000, 0x3fefffffffffffff,
		0x3ff0000000000000, 0x3ff0000000000001, 0x3ff8000000000000, 0x4000000000000000, 0x40effc0000000000, 0x40f0000000000000, 0x4330000000000000, 0x4340000000000000,
		0x43dfffffffffffff, 0x43e0000000000000, 0x43e0000000000001, 0x47efffffffffffff, 0x47f0000000000000, 0x7fe0000000000000, 0x7fefffffffffffff,
		0x7ff0000000000000,
	}
}

// nones are patterns for no number, with each sign and many fractions.
func nones() []uint64 {
	var l []uint64
	for _, sign := range []uint64{0, 1 << 63} {
		for _, fraction := range []uint64{1, 2, 0x000fffffffffffff, 0x0008000000000000, 0x0008000000000001, 0x0007ffffffffffff, 0x0000000080000000, 0x000000001fffffff, 0x0000000020000000} {
			l = append(l, sign|0x7ff<<52|fraction)
		}
	}
	return l
}

// edges are the patterns of rising with each sign, and nones.
func edges() []uint64 {
	l := nones()
	for _, x := range rising() {
		l = append(l, x, x|1<<63)
	}
	return l
}

// many are edges, some of every exponent, and some by chance.
func many() []uint64 {
	l := edges()
	r := rule{5}
	for e := range uint64(2048) {
		for _, fraction := range []uint64{0, 1, 0x000fffffffffffff, 0x0008000000000000, r.next() >> 12, r.next() >> 12 &^ 0xffffffff} {
			l = append(l, e<<52|fraction, 1<<63|e<<52|fraction)
		}
	}
	for range 20000 {
		l = append(l, r.next())
	}
	return l
}

func isNone(b uint64) bool     { return b<<1 > 0x7ff<<53 }
func isInfinite(b uint64) bool { return b<<1 == 0x7ff<<53 }

// around are the floats next to x on each side, and x, with each sign. (x is a size, and no greatest one.)
func around(x float64) []float64 {
	b := math.Float64bits(x)
	l := []float64{x, math.Float64frombits(b + 1), -x, -math.Float64frombits(b + 1)}
	if b > 0 {
		l = append(l, math.Float64frombits(b-1), -math.Float64frombits(b-1))
	}
	return l
}

// singles are patterns of sizes of 32 bits that are finite: 0, the ends of each class, some of every exponent.
func singles() []uint32 {
	l := []uint32{0, 1, 2, 3, 0x007ffffe, 0x007fffff, 0x00800000, 0x00800001, 0x7f7ffffe, 0x7f7fffff}
	r := rule{7}
	for e := range uint32(255) {
		l = append(l, e<<23, e<<23+1, e<<23+0x7fffff, e<<23+0x7ffffe)
		for range 20 {
			l = append(l, e<<23+uint32(r.next()>>41))
		}
	}
	slices.Sort(l)
	return slices.Compact(l)
}

// singleSize is the size of a pattern of 32 bits in the document's words; of the infinite one what would come behind the greatest.
func singleSize(p uint32) float64 {
	if p>>23 == 0 {
		return math.Ldexp(float64(p), -149)
	}
	return math.Ldexp(float64(p&0x7fffff|0x800000), int(p>>23)-150)
}

// halfSize is likewise of 16 bits.
func halfSize(p uint16) float64 {
	if p>>10 == 0 {
		return math.Ldexp(float64(p), -24)
	}
	return math.Ldexp(float64(p&0x3ff|0x400), int(p>>10)-25)
}

// nearest is the place of a size among sizes that rise by their numbers from 0 to end, sought in the document's words: the closest, of two the even one; behind the middle of the last two the last, which stands for the infinite one.
func nearest(x float64, end uint32, size func(uint32) float64) uint32 {
	low, high := uint32(0), end
	for high-low > 1 {
		if m := low + (high-low)/2; size(m) <= x {
			low = m
		} else {
			high = m
		}
	}
	middle := size(low)/2 + size(high)/2
	if x > middle || x == middle && high%2 == 0 {
		return high
	}
	return low
}

func nearestSingle(x float64) uint32 { return nearest(x, 0x7f800000, singleSize) }

func nearestHalf(x float64) uint16 {
	return uint16(nearest(x, 0x7c00, func(p uint32) float64 { return halfSize(uint16(p)) }))
}

func signOf(x float64) int {
	if math.Signbit(x) {
		return 1
	}
	return 0
}

// realOf is the real part as the language tells it: the word for that means the package, where it is imported.
func realOf(c complex128) float64 { return real(c) }
