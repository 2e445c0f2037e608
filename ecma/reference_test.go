package ecma_test

import (
	"errors"
	"regexp"
	"slices"
	"strings"
	"testing"

	"crucible/api"
	"crucible/ecma"
	"crucible/nat"
	"crucible/quot"
)

type list = api.Nat

// The greatest and the least int.
const (
	most  = int(^uint(0) >> 1)
	least = -most - 1
)

const (
	sign     = uint64(1) << 63
	infinite = uint64(0x7ff0000000000000)
)

// number is what the chapter's section Words says a JSON number is.
var number = regexp.MustCompile(`\A(-?)(0|[1-9][0-9]*)(?:\.([0-9]+))?(?:[eE]([+-]?[0-9]+))?\z`)

func isNumber(s string) bool { return number.MatchString(s) }

// isBeginning: does some JSON number begin so? (One more digit is enough wherever there must be more.)
func isBeginning(s string) bool { return isNumber(s) || isNumber(s+"0") }

// firstWrong is the place that the document tells of a text that is no JSON number.
func firstWrong(s string) int {
	at := 0
	for at < len(s) && isBeginning(s[:at+1]) {
		at++
	}
	return at
}

// amount is the exact number m times 2 to the power of two and 10 to the power of ten, without a sign.
type amount struct {
	m        list
	two, ten int
}

// amountOf is the size of a finite pattern without a sign.
func amountOf(x uint64) amount {
	exponent, fraction := x>>52, x%(1<<52)
	if exponent == 0 {
		return amount{nat.From(fraction), -1074, 0}
	}
	return amount{nat.From(fraction + 1<<52), int(exponent) - 1075, 0}
}

// middle is the number halfway between the finite pattern x and the next one; of the greatest one it is a half of its last step above it.
func middle(x uint64) amount {
	a := amountOf(x)
	return amount{nat.Add(nat.Add(a.m, a.m), list{1}), a.two - 1, a.ten}
}

// inUnits are the numbers as lists of one and the same unit.
func inUnits(numbers ...amount) []list {
	two, ten := 0, 0
	for _, a := range numbers {
		two, ten = min(two, a.two), min(ten, a.ten)
	}
	var out []list
	for _, a := range numbers {
		power, ok := quot.Pow(10, a.ten-ten)
		m, fits := nat.Shl(nat.Mul(a.m, power), a.two-two)
		if !ok || !fits {
			panic("too long for the reference")
		}
		out = append(out, m)
	}
	return out
}

func (a amount) cmp(b amount) int {
	both := inUnits(a, b)
	return nat.Cmp(both[0], both[1])
}

// inDigits are the digits of a number that has no power of 10, and how many of them stand behind the point.
func (a amount) inDigits() (text string, behind int) {
	if a.two >= 0 {
		return quot.Digits(inUnits(a)[0]), 0
	}
	power, _ := quot.Pow(5, -a.two)
	return quot.Digits(nat.Mul(a.m, power)), -a.two
}

// isNearest: is x, a pattern without a sign that is some number, the nearest one to the number?
func isNearest(a amount, x uint64) bool {
	if x > infinite {
		return false
	}
	even := x%2 == 0
	if x > 0 {
		if c := a.cmp(middle(x - 1)); c < 0 || c == 0 && !even {
			return false
		}
	}
	if x < infinite {
		if c := a.cmp(middle(x)); c > 0 || c == 0 && !even {
			return false
		}
	}
	return true
}

// size is the size of a JSON number whose power is small.
func size(s string) amount {
	parts := number.FindStringSubmatch(s)
	power := 0
	for _, c := range strings.TrimLeft(parts[4], "+-") {
		power = 10*power + int(c-'0')
	}
	if strings.HasPrefix(parts[4], "-") {
		power = -power
	}
	m := list{}
	if text := strings.TrimLeft(parts[2]+parts[3], "0"); text != "" {
		m, _ = quot.Read(text)
	}
	return amount{m, 0, power - len(parts[3])}
}

// inDigits is a JSON number whose power is small as a decimal number.
func inDigits(s string) api.Digits {
	parts := number.FindStringSubmatch(s)
	text := parts[2] + parts[3]
	return api.Digits{Neg: parts[1] == "-", Text: text, Point: len(text) + size(s).ten}
}

// rule makes numbers that look like any, the same in each run.
type rule struct{ state uint64 }

func (r *rule) next() uint64 {
	r.state += 0x9e3779b97f4a7c15
	z := r.state
	z = (z ^ z>>30) * 0xbf58476d1ce4e5b9
	z = (z ^ z>>27) * 0x94d049bb133111eb
	return z ^ z>>31
}

func (r *rule) below(n int) int { return int(r.next() % uint64(n)) }

// text makes n digits.
func (r *rule) text(n int) string {
	out := make([]byte, n)
	for i := range out {
		out[i] = '0' + byte(r.next()%10)
	}
	return string(out)
}

// bare makes n digits of which the first and the last one are no noughts.
func (r *rule) bare(n int) string {
	out := []byte(r.text(n))
	out[0] = '1' + byte(r.next()%9)
	out[n-1] = '1' + byte(r.next()%9)
	return string(out)
}

// number makes a JSON number in any of the ways to write one, with a power of up to that size.
func (r *rule) number(power int) string {
	s := strings.Repeat("-", r.below(2))
	if r.below(3) > 0 {
		s += r.bare(1 + r.below(20))
		s += strings.Repeat("0", r.below(3)*r.below(9))
	} else {
		s += "0"
	}
	if r.below(3) > 0 {
		s += "." + strings.Repeat("0", r.below(3)*r.below(9)) + r.text(1+r.below(25))
	}
	if r.below(3) > 0 {
		digits := quot.Digits(nat.From(r.next() % uint64(power+1)))
		s += []string{"e", "E"}[r.below(2)] + []string{"", "+", "-", "-"}[r.below(4)] + strings.Repeat("0", r.below(3)*r.below(4)) + digits
	}
	return s
}

// edges are the finite sizes that the document names, with their neighbours.
func edges() []uint64 {
	const normal, one = uint64(1) << 52, uint64(0x3ff0000000000000)
	out := []uint64{infinite - normal - 1, infinite - normal, infinite - normal + 1}
	for x := range uint64(20) {
		out = append(out, x, normal-10+x, 2*normal-10+x, one-10+x, infinite-20+x)
	}
	// 1e-7, 1e-6, 1e21, 1e22, 1e23 and 2 to the power of 53, where the layout or the digits turn.
	for _, x := range []uint64{0x3e7ad7f29abcaf48, 0x3eb0c6f7a0b5ed8d, 0x444b1ae4d6e2ef50, 0x4480f0cf064dd592, 0x44b52d02c7e14af6, 0x4340000000000000} {
		for i := range uint64(9) {
			out = append(out, x-4+i)
		}
	}
	return out
}

// some are finite sizes that rise: the edges, every power of 2, every fourth exponent with other fractions.
func some() []uint64 {
	const normal = uint64(1) << 52
	sizes := edges()
	r := rule{52}
	for e := uint64(1); e < 0x7ff; e++ {
		sizes = append(sizes, e<<52)
		if e%4 != 0 {
			continue
		}
		short := r.next() % normal &^ (1<<(r.next()%52) - 1)
		for _, fraction := range []uint64{1, normal - 1, r.next() % normal, short} {
			sizes = append(sizes, e<<52+fraction)
		}
	}
	slices.Sort(sizes)
	return slices.Compact(sizes)
}

// cut tells a long text without its middle.
func cut(s string) string {
	if len(s) > 100 {
		return s[:60] + ".." + s[len(s)-30:]
	}
	return s
}

// wantRead asks for a text that has no sign, and for the same with a - ahead.
func wantRead(t *testing.T, s string, want uint64) {
	t.Helper()
	if got, err := ecma.Read(s); got != want || err != nil {
		t.Errorf("Read(%q) = %#x, %v, want %#x", cut(s), got, err, want)
	}
	if got, err := ecma.Read("-" + s); got != want+sign || err != nil {
		t.Errorf("Read(%q) = %#x, %v, want %#x", cut("-"+s), got, err, want+sign)
	}
}

// wantFault: the answer is nothing but ErrInput and its place.
func wantFault(t *testing.T, s string, at int) {
	t.Helper()
	got, err := ecma.Read(s)
	var fault *api.Fault
	if got != 0 || !errors.As(err, &fault) || fault.At != at || fault.Path != "" {
		t.Errorf("Read(%q) = %#x, %v, want a fault at %d", cut(s), got, err, at)
	}
	if !errors.Is(err, api.ErrInput) {
		t.Errorf("Read(%q): %v, want ErrInput", cut(s), err)
	}
	for _, other := range []error{api.ErrArg, api.ErrNil, api.ErrRep, api.ErrLimit, api.ErrNone, api.ErrBusy, api.ErrHandle, api.ErrKey, api.ErrStopped, api.ErrScript} {
		if errors.Is(err, other) {
			t.Errorf("Read(%q): %v, which is %v too", cut(s), err, other)
		}
	}
}

// The reference itself, held against what is known.
func TestReference(t *testing.T) {
	for _, s := range []string{"0", "-0", "10", "1.0", "0.00", "1e5", "1E+5", "-1.5e-05", "0e0"} {
		if !isNumber(s) {
			t.Errorf("the reference has %q for no JSON number", s)
		}
	}
	for _, s := range []string{"", "-", "00", "01", "+1", "1.", ".1", "1e", "1e+", "1e1.0", "1\n", "\n1", " 1", "١", "0x1"} {
		if isNumber(s) {
			t.Errorf("the reference has %q for a JSON number", s)
		}
	}
	for _, c := range []struct {
		s    string
		want uint64
	}{{"1", 0x3ff0000000000000}, {"0.1", 0x3fb999999999999a}, {"9007199254740993", 0x4340000000000000}, {"-9007199254740995e0", 0x4340000000000002}, {"5e-324", 1}, {"2.47e-324", 0}, {"1.7976931348623158e308", infinite - 1}, {"179769313486231590E+291", infinite}, {"0.000e5", 0}} {
		for x := max(c.want, 2) - 2; x <= c.want+2; x++ {
			if got := isNearest(size(c.s), x); got != (x == c.want) {
				t.Errorf("the reference's isNearest of %s and %#x is %v", c.s, x, got)
			}
		}
	}
	r := rule{1}
	for range 2000 {
		if s := r.number(30); !isNumber(s) {
			t.Errorf("the rule makes %q", s)
		}
	}
}
