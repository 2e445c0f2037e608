package shortest

import (
	"crucible/nat"
	"crucible/quot"
)

// fewest makes the digits behind the point, of a number below 1 and not below a tenth, till cutting off there or one more in the last place stays within reach. carried says that the one more made it 1.
func (r *reach) fewest() (text string, carried bool) {
	var digits []byte
making:
	for {
		digit := r.nextDigit()
		down, up := r.holdsDown(), r.holdsUp()
		switch {
		case up && (!down || r.isUpCloser(digit)):
			if digit == 9 {
				// This can only be the first digit: after another one that digit and 1 more would have been within reach.
				return "1", true
			}
			digits = append(digits, '0'+digit+1)
			break making
		case down:
			digits = append(digits, '0'+digit)
			break making
		}
		digits = append(digits, '0'+digit)
	}
	return string(digits), false
}

// nextDigit takes the next digit off: what is left of the number, and the reach, are then told in steps of its place.
func (r *reach) nextDigit() byte {
	r.times(nat.From(10))
	q, rest, _ := quot.Div(r.number, r.one)
	r.number = rest
	digit, _ := nat.Uint(q)
	return byte(digit)
}

// holdsDown: is the number within reach that what is left is cut off from?
func (r *reach) holdsDown() bool {
	c := nat.Cmp(r.number, r.below)
	return c < 0 || c == 0 && r.ends
}

// holdsUp: is the number within reach that is one more in the last place?
func (r *reach) holdsUp() bool {
	c := nat.Cmp(nat.Add(r.number, r.above), r.one)
	return c > 0 || c == 0 && r.ends
}

// isUpCloser: is one more in the last place closer than the digit itself, or as close and even?
func (r *reach) isUpCloser(digit byte) bool {
	c := nat.Cmp(nat.Add(r.number, r.number), r.one)
	return c > 0 || c == 0 && digit%2 == 1
}
