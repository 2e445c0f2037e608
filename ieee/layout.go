package ieee

import "math"

// layout is what a width has; all else about the width follows from it.
type layout struct {
	width    int // binary digits in all
	fraction int // binary digits of the fraction
	least    int // the power of 2 that a fraction counts where the exponent bits are 0
}

const (
	half = iota
	single
	double
)

var layouts = [...]layout{
	half:   {16, 10, -24},
	single: {32, 23, -149},
	double: {64, 52, -1074},
}

// layoutOf asks for the type's greatest number, which tells the width of any type, of one's own too.
func layoutOf[T Bits]() layout {
	switch uint64(^T(0)) {
	case math.MaxUint16:
		return layouts[half]
	case math.MaxUint32:
		return layouts[single]
	}
	return layouts[double]
}

func (l layout) sign() uint64 { return 1 << (l.width - 1) }

// leastNormal is also the 1 that stands ahead of a fraction.
func (l layout) leastNormal() uint64 { return 1 << l.fraction }

func (l layout) infinite() uint64 { return l.sign() - l.leastNormal() }

func (l layout) noNumber() uint64 { return l.infinite() | l.leastNormal()>>1 }

// size is the pattern without its sign.
func (l layout) size(x uint64) uint64 { return x &^ l.sign() }

// limit is the least power of 2 that is above all finite patterns.
func (l layout) limit() int {
	_, e := l.steps(l.infinite())
	return e + l.fraction
}

// steps tells a finite pattern without its sign as so many steps, and the power of 2 that a step is.
func (l layout) steps(size uint64) (m uint64, e int) {
	exponent, fraction := size>>l.fraction, size&(l.leastNormal()-1)
	if exponent == 0 {
		return fraction, l.least
	}
	return fraction | l.leastNormal(), l.least + int(exponent) - 1
}

// pattern is the other way round, for up to twice as many steps as a fraction counts: as the exponent bits stand above the fraction, steps that are one too many for it carry into them, up to the infinite pattern.
func (l layout) pattern(m uint64, e int) uint64 {
	return m + uint64(e-l.least)<<l.fraction
}
