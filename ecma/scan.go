package ecma

import (
	"strings"

	"crucible/api"
)

// The places in a JSON number, each named by what stands right ahead of it.
const (
	atStart = iota
	atMinus
	atNought // the one that is all of the whole part
	atWhole
	atFraction
	atPoint
	atMark // e or E
	atPowerSign
	atPower
)

// scan tells how far s is the beginning of a JSON number, and whether it is one.
func scan(s string) (at int, ok bool) {
	place := atStart
scanning:
	for ; at < len(s); at++ {
		c := s[at]
		switch place {
		case atStart:
			if c == '-' {
				place = atMinus
				continue
			}
			fallthrough
		case atMinus:
			if !isDigit(c) {
				break scanning
			}
			place = atWhole
			if c == '0' {
				place = atNought
			}
		case atNought:
			if isDigit(c) {
				break scanning
			}
			fallthrough
		case atWhole:
			if c == '.' {
				place = atPoint
				continue
			}
			fallthrough
		case atFraction:
			// A digit leaves the place as it is, in the whole part too.
			if c == 'e' || c == 'E' {
				place = atMark
			} else if !isDigit(c) {
				break scanning
			}
		case atPoint:
			if !isDigit(c) {
				break scanning
			}
			place = atFraction
		case atMark:
			if c == '+' || c == '-' {
				place = atPowerSign
				continue
			}
			fallthrough
		case atPowerSign, atPower:
			if !isDigit(c) {
				break scanning
			}
			place = atPower
		}
	}
	return at, at == len(s) && mayEnd(place)
}

func mayEnd(place int) bool {
	return place == atNought || place == atWhole || place == atFraction || place == atPower
}

// valueOf is the value of a JSON number, or, where its power is beyond what its digits could make up for, one as far beyond all finite patterns.
func valueOf(s string) api.Digits {
	size, neg := strings.CutPrefix(s, "-")
	power := 0
	if mark := strings.IndexAny(size, "eE"); mark >= 0 {
		// No size that is not 0 and whose first digit stands 400 places off the point is that of a finite pattern.
		power = powerOf(size[mark+1:], len(s)+400)
		size = size[:mark]
	}
	whole, fraction, _ := strings.Cut(size, ".")
	return api.Digits{Neg: neg, Text: whole + fraction, Point: len(whole) + power}
}

// powerOf reads a power, or the limit instead where its size is above that.
func powerOf(text string, limit int) int {
	digits, below := strings.CutPrefix(text, "-")
	size := 0
	for _, c := range strings.TrimPrefix(digits, "+") {
		size = min(10*size+int(c-'0'), limit)
	}
	if below {
		return -size
	}
	return size
}
