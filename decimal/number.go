package decimal

import (
	"cmp"

	"crucible/api"
)

// number is a decimal number without its outer noughts: 0.digits times 10 to the power of point less ahead. (These two stay apart, as the difference may be no int.) Of 0 all but neg is zero.
type number struct {
	neg          bool
	digits       string
	point, ahead int
}

func numberOf(d api.Digits) (number, bool) {
	first, end := len(d.Text), 0
	for i, c := range d.Text {
		if c < '0' || c > '9' {
			return number{}, false
		}
		if c != '0' {
			first, end = min(first, i), i+1
		}
	}
	if end == 0 {
		return number{neg: d.Neg}, true
	}
	return number{neg: d.Neg, digits: d.Text[first:end], point: d.Point, ahead: first}, true
}

func (a number) sign() int {
	switch {
	case a.digits == "":
		return 0
	case a.neg:
		return -1
	}
	return 1
}

func (a number) cmp(b number) int {
	sign := a.sign()
	if sign != b.sign() {
		return cmp.Compare(sign, b.sign())
	}
	c := cmpPlaces(a, b)
	if c == 0 {
		// No digits end with a nought, so the beginning of longer ones is below them.
		c = cmp.Compare(a.digits, b.digits)
	}
	return sign * c
}

// cmpPlaces holds the places of the first digits against each other.
func cmpPlaces(a, b number) int {
	if a.point < b.point {
		return -cmpPlaces(b, a)
	}
	more := a.ahead - b.ahead
	if more < 0 {
		return 1
	}
	// Two ints may be farther apart than the greatest int, but no farther than the greatest uint.
	return cmp.Compare(uint(a.point)-uint(b.point), uint(more))
}
