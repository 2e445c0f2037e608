package decimal_test

import (
	"reflect"
	"slices"
	"strings"
	"testing"

	"crucible/api"
	"crucible/decimal"
	"crucible/ieee"
	"crucible/nat"
	"crucible/quot"
)

type list = api.Nat

// Types of our own, beneath each of which one of the three lies.
type (
	own16 uint16
	own32 uint32
	own64 uint64
)

// The greatest and the least int.
const (
	most  = int(^uint(0) >> 1)
	least = -most - 1
)

// widths runs one test at every width and every type of our own.
func widths(t *testing.T, tests ...func(*testing.T)) {
	if len(tests) != 6 {
		t.Fatalf("%d types, want 6", len(tests))
	}
	for i, name := range []string{"uint16", "uint32", "uint64", "own16", "own32", "own64"} {
		t.Run(name, tests[i])
	}
}

// kind is what the document's section Words says of a width: how many bits the exponent and the fraction have, and what is taken from the exponent bits.
type kind struct {
	exponent, fraction uint
	taken              int
}

func kindOf[T ieee.Bits]() kind {
	switch reflect.TypeFor[T]().Bits() {
	case 16:
		return kind{5, 10, 25}
	case 32:
		return kind{8, 23, 150}
	}
	return kind{11, 52, 1075}
}

func (k kind) sign() uint64     { return 1 << (k.exponent + k.fraction) }
func (k kind) infinite() uint64 { return (1<<k.exponent - 1) << k.fraction }

// amount is the exact number m times 2 to the power of two and 10 to the power of ten, without a sign.
type amount struct {
	m        list
	two, ten int
}

// amountOf is the size of a finite pattern.
func (k kind) amountOf(x uint64) amount {
	exponent, fraction := x>>k.fraction, x%(1<<k.fraction)
	if exponent == 0 {
		return amount{nat.From(fraction), 1 - k.taken, 0}
	}
	return amount{nat.From(fraction + 1<<k.fraction), int(exponent) - k.taken, 0}
}

// middle is the number halfway between the finite pattern x without a sign and the next one; of the greatest one it is a half of its last step above it.
func (k kind) middle(x uint64) amount {
	a := k.amountOf(x)
	return amount{nat.Add(nat.Add(a.m, a.m), list{1}), a.two - 1, a.ten}
}

// size is the size of a decimal number whose Text has no byte but digits.
func size(d api.Digits) amount {
	m := list{}
	if text := strings.TrimLeft(d.Text, "0"); text != "" {
		var ok bool
		if m, ok = quot.Read(text); !ok {
			panic("no digits: " + text)
		}
	}
	return amount{m, 0, d.Point - len(d.Text)}
}

// inUnits are the numbers as lists of one and the same unit.
func inUnits(numbers ...amount) []list {
	two, ten := 0, 0
	for _, a := range numbers {
		two, ten = min(two, a.two), min(ten, a.ten)
	}
	var out []list
	for _, a := range numbers {
		power, ok := quot.Pow(10, a.ten-ten)
		m, fits := nat.Shl(nat.Mul(a.m, power), a.two-two)
		if !ok || !fits {
			panic("too long for the reference")
		}
		out = append(out, m)
	}
	return out
}

func (a amount) cmp(b amount) int {
	both := inUnits(a, b)
	return nat.Cmp(both[0], both[1])
}

// isNearest: is x, a pattern without a sign that is some number, the nearest one to the number?
func (k kind) isNearest(a amount, x uint64) bool {
	if x > k.infinite() {
		return false
	}
	even := x%2 == 0
	if x > 0 {
		if c := a.cmp(k.middle(x - 1)); c < 0 || c == 0 && !even {
			return false
		}
	}
	if x < k.infinite() {
		if c := a.cmp(k.middle(x)); c > 0 || c == 0 && !even {
			return false
		}
	}
	return true
}

// inDigits are the digits of a number that has no power of 10.
func (a amount) inDigits() api.Digits {
	if a.two >= 0 {
		text := quot.Digits(inUnits(a)[0])
		return api.Digits{Text: text, Point: len(text)}
	}
	power, _ := quot.Pow(5, -a.two)
	text := quot.Digits(nat.Mul(a.m, power))
	return api.Digits{Text: text, Point: len(text) + a.two}
}

// above is a little greater: a 1 stands n places behind the last digit.
func above(d api.Digits, n int) api.Digits {
	d.Text += strings.Repeat("0", n-1) + "1"
	return d
}

// below is a little less: n nines stand behind a last digit that is less by 1. (d is not 0.)
func below(d api.Digits, n int) api.Digits {
	text := []byte(d.Text)
	i := len(text) - 1
	for ; text[i] == '0'; i-- {
		text[i] = '9'
	}
	text[i]--
	d.Text = string(text) + strings.Repeat("9", n)
	return d
}

// minus is the number with the other sign.
func minus(d api.Digits) api.Digits {
	d.Neg = !d.Neg
	return d
}

// rule makes numbers that look like any, the same in each run.
type rule struct{ state uint64 }

func (r *rule) next() uint64 {
	r.state += 0x9e3779b97f4a7c15
	z := r.state
	z = (z ^ z>>30) * 0xbf58476d1ce4e5b9
	z = (z ^ z>>27) * 0x94d049bb133111eb
	return z ^ z>>31
}

// text makes n digits.
func (r *rule) text(n int) string {
	out := make([]byte, n)
	for i := range out {
		out[i] = '0' + byte(r.next()%10)
	}
	return string(out)
}

// edges are the sizes that the document names, with their neighbours: finite ones.
func edges[T ieee.Bits]() []uint64 {
	k := kindOf[T]()
	normal, one, inf := uint64(1)<<k.fraction, uint64(k.taken-int(k.fraction))<<k.fraction, k.infinite()
	out := []uint64{inf - 3, inf - 2, inf - 1, inf - normal - 1, inf - normal, inf - normal + 1, one + normal/2, one + normal + normal/2}
	for x := range uint64(20) {
		out = append(out, x, normal-10+x, 2*normal-10+x, one-10+x)
	}
	return out
}

// some are sizes that rise: the edges, every power of 2, and with other fractions every exponent (of 64 bits every eighth).
func some[T ieee.Bits]() []uint64 {
	k := kindOf[T]()
	sizes := edges[T]()
	normal := uint64(1) << k.fraction
	r := rule{uint64(k.fraction)}
	for e := uint64(1); e < 1<<k.exponent-1; e++ {
		sizes = append(sizes, e<<k.fraction)
		if k.exponent == 11 && e%8 != 0 {
			continue
		}
		short := r.next() % normal &^ (1<<(r.next()%uint64(k.fraction)) - 1)
		for _, fraction := range []uint64{1, normal - 1, r.next() % normal, short} {
			sizes = append(sizes, e<<k.fraction+fraction)
		}
	}
	slices.Sort(sizes)
	return slices.Compact(sizes)
}

// wantRead asks with each sign.
func wantRead[T ieee.Bits](t *testing.T, d api.Digits, want uint64) {
	t.Helper()
	for _, neg := range []bool{false, true} {
		d.Neg = neg
		x := T(want)
		if neg {
			x = T(want + kindOf[T]().sign())
		}
		if got, ok := decimal.Read[T](d); got != x || !ok {
			t.Errorf("Read(%s) = %#x, %v, want %#x", show(d), got, ok, x)
		}
	}
}

// show tells a decimal number, without the middle of a long one.
func show(d api.Digits) string {
	sign := ""
	if d.Neg {
		sign = "-"
	}
	text := d.Text
	if len(text) > 100 {
		text = text[:50] + ".." + text[len(text)-30:]
	}
	return sign + "\"" + text + "\" " + quoted(d.Point) + ", of " + quoted(len(d.Text)) + " bytes"
}

func quoted(n int) string {
	if n < 0 {
		return "-" + quot.Digits(nat.From(-uint64(n)))
	}
	return quot.Digits(nat.From(uint64(n)))
}

// The reference itself, held against numbers that are known.
func TestReference(t *testing.T) {
	k := kindOf[own16]()
	for _, c := range []struct {
		text  string
		point int
		want  uint64
	}{{"1", 1, 0x3c00}, {"2049", 4, 0x6800}, {"2051", 4, 0x6802}, {"65519", 5, 0x7bff}, {"6552", 5, 0x7c00}, {"65519999", 5, 0x7bff}, {"29802322387695312", -7, 0}, {"298023223876953125", -7, 0}, {"298023223876953126", -7, 1}, {"1", 400, 0x7c00}, {"1", -400, 0}, {"000", 3, 0}} {
		a := size(api.Digits{Text: c.text, Point: c.point})
		for x := max(c.want, 2) - 2; x <= c.want+2; x++ {
			if got := k.isNearest(a, x); got != (x == c.want) {
				t.Errorf("the reference's isNearest of 0.%se%d and %#x is %v", c.text, c.point, x, got)
			}
		}
	}
	d := api.Digits{Text: "1200", Point: 3}
	if got := above(d, 3); got.Text != "1200001" || got.Point != 3 {
		t.Errorf("a little above 120.0 is %v", got)
	}
	if got := below(d, 3); got.Text != "1199999" || got.Point != 3 {
		t.Errorf("a little below 120.0 is %v", got)
	}
	for _, x := range some[uint64]() {
		if a := kindOf[uint64]().middle(x); size(a.inDigits()).cmp(a) != 0 {
			t.Errorf("the digits behind %#x are wrong", x)
		}
	}
	if got := show(api.Digits{Neg: true, Text: "12", Point: least}); got != "-\"12\" -9223372036854775808, of 2 bytes" {
		t.Errorf("%s", got)
	}
}
