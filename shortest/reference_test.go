package shortest_test

import (
	"reflect"
	"slices"
	"sort"
	"strings"
	"testing"

	"crucible/api"
	"crucible/ieee"
	"crucible/nat"
	"crucible/quot"
)

type list = api.Nat

// Types of our own, beneath each of which one of the three lies.
type (
	own16 uint16
	own32 uint32
	own64 uint64
)

// widths runs one test at every width and every type of our own.
func widths(t *testing.T, tests ...func(*testing.T)) {
	if len(tests) != 6 {
		t.Fatalf("%d types, want 6", len(tests))
	}
	for i, name := range []string{"uint16", "uint32", "uint64", "own16", "own32", "own64"} {
		t.Run(name, tests[i])
	}
}

// kind is what the document's section Words says of a width: how many bits the exponent and the fraction have, and what is taken from the exponent bits; and how many digits P6.2 allows.
type kind struct {
	exponent, fraction uint
	taken, digits      int
}

func kindOf[T ieee.Bits]() kind {
	switch reflect.TypeFor[T]().Bits() {
	case 16:
		return kind{5, 10, 25, 5}
	case 32:
		return kind{8, 23, 150, 9}
	}
	return kind{11, 52, 1075, 17}
}

func (k kind) sign() uint64     { return 1 << (k.exponent + k.fraction) }
func (k kind) infinite() uint64 { return (1<<k.exponent - 1) << k.fraction }

// amount is the exact number m times 2 to the power of two and 10 to the power of ten, without a sign.
type amount struct {
	m        list
	two, ten int
}

// amountOf is the size of a finite pattern. Of the infinite one it is the number that would come behind the greatest.
func (k kind) amountOf(x uint64) amount {
	exponent, fraction := x>>k.fraction, x%(1<<k.fraction)
	if exponent == 0 {
		return amount{nat.From(fraction), 1 - k.taken, 0}
	}
	return amount{nat.From(fraction + 1<<k.fraction), int(exponent) - k.taken, 0}
}

// middle is the number halfway between the pattern x without a sign, and the next one.
func (k kind) middle(x uint64) amount {
	a := k.amountOf(x)
	return amount{nat.Add(nat.Add(a.m, a.m), list{1}), a.two - 1, a.ten}
}

// decimal is the decimal number 0.d1d2.. times 10 to the power of point.
func decimal(text string, point int) amount {
	m, ok := quot.Read(text)
	if !ok {
		panic("no digits: " + text)
	}
	return amount{m, 0, point - len(text)}
}

// inUnits are the numbers as lists of one and the same unit.
func inUnits(numbers ...amount) []list {
	two, ten := 0, 0
	for _, a := range numbers {
		two, ten = min(two, a.two), min(ten, a.ten)
	}
	var out []list
	for _, a := range numbers {
		power, ok := quot.Pow(10, a.ten-ten)
		m, fits := nat.Shl(nat.Mul(a.m, power), a.two-two)
		if !ok || !fits {
			panic("too long for the reference")
		}
		out = append(out, m)
	}
	return out
}

func (a amount) cmp(b amount) int {
	both := inUnits(a, b)
	return nat.Cmp(both[0], both[1])
}

// closer is -1, if a is closer to the number than b is, 0, if they are as close, else 1.
func closer(a, b, number amount) int {
	all := inUnits(a, b, number)
	return nat.Cmp(apart(all[0], all[2]), apart(all[1], all[2]))
}

func apart(a, b list) list {
	if nat.Cmp(a, b) < 0 {
		a, b = b, a
	}
	d, _ := nat.Sub(a, b)
	return d
}

// nearest seeks the pattern by the document's words: it holds the number against those halfway between two patterns.
func (k kind) nearest(a amount) uint64 {
	return uint64(sort.Search(int(k.infinite()), func(i int) bool {
		c := a.cmp(k.middle(uint64(i)))
		return c < 0 || c == 0 && i%2 == 0
	}))
}

// isRead: is x, a finite pattern above 0 without a sign, the nearest one to the number?
func (k kind) isRead(a amount, x uint64) bool {
	low, high := a.cmp(k.middle(x-1)), a.cmp(k.middle(x))
	if x%2 == 0 {
		return low >= 0 && high <= 0
	}
	return low > 0 && high < 0
}

// cut is how many steps of 10 to the power of ten there are in the number, what is left over cut off.
func (a amount) cut(ten int) list {
	both := inUnits(a, amount{list{1}, 0, ten})
	q, _, _ := quot.Div(both[0], both[1])
	return q
}

// pointOf is the power of 10 which is above the number, the next lower one not.
func (a amount) pointOf() int {
	point := 0
	for a.cmp(amount{list{1}, 0, point}) >= 0 {
		point += 10
	}
	for a.cmp(amount{list{1}, 0, point - 10}) < 0 {
		point -= 10
	}
	for a.cmp(amount{list{1}, 0, point - 1}) < 0 {
		point--
	}
	return point
}

// about are the decimal numbers with n digits that are next to the number, with each Point that may be.
func (a amount) about(n, point int) []api.Digits {
	var out []api.Digits
	for p := point - 1; p <= point+1; p++ {
		steps := a.cut(p - n)
		for i := range uint64(6) {
			d, ok := nat.Sub(nat.Add(steps, nat.From(i)), list{2})
			if text := quot.Digits(d); ok && len(text) == n && text != "0" {
				out = append(out, api.Digits{Text: text, Point: p})
			}
		}
	}
	return out
}

// want is P6.1 in its own words, for a finite pattern above 0 without a sign.
func (k kind) want(x uint64) api.Digits {
	number := k.amountOf(x)
	point := number.pointOf()
	for n := 1; ; n++ {
		var best api.Digits
		for _, d := range number.about(n, point) {
			if k.isRead(decimal(d.Text, d.Point), x) && (best.Text == "" || better(d, best, number)) {
				best = d
			}
		}
		if best.Text != "" {
			return best
		}
	}
}

// better: is a closer to the number than b, or as close with an even last digit?
func better(a, b api.Digits, number amount) bool {
	c := closer(decimal(a.Text, a.Point), decimal(b.Text, b.Point), number)
	return c < 0 || c == 0 && strings.Contains("02468", a.Text[len(a.Text)-1:])
}

// below: is the decimal number a less than b? Their first digits are not 0.
func below(a, b api.Digits) bool {
	return a.Point < b.Point || a.Point == b.Point && a.Text < b.Text
}

// rule makes numbers that look like any, the same in each run.
type rule struct{ state uint64 }

func (r *rule) next() uint64 {
	r.state += 0x9e3779b97f4a7c15
	z := r.state
	z = (z ^ z>>30) * 0xbf58476d1ce4e5b9
	z = (z ^ z>>27) * 0x94d049bb133111eb
	return z ^ z>>31
}

// edges are the sizes that the document names, with their neighbours: finite ones above 0.
func edges[T ieee.Bits]() []uint64 {
	k := kindOf[T]()
	normal, one, inf := uint64(1)<<k.fraction, uint64(k.taken-int(k.fraction))<<k.fraction, k.infinite()
	out := []uint64{inf - 3, inf - 2, inf - 1, inf - normal - 1, inf - normal, inf - normal + 1, one + normal/2, one + normal + normal/2}
	for x := range uint64(40) {
		out = append(out, x+1, normal-20+x, 2*normal-20+x, one-20+x)
	}
	return out
}

// some are sizes that rise: the edges, every power of 2, and with other fractions every exponent (of 64 bits every eighth).
func some[T ieee.Bits]() []uint64 {
	k := kindOf[T]()
	sizes := edges[T]()
	normal := uint64(1) << k.fraction
	r := rule{uint64(k.fraction)}
	for e := uint64(1); e < 1<<k.exponent-1; e++ {
		sizes = append(sizes, e<<k.fraction)
		if k.exponent == 11 && e%8 != 0 {
			continue
		}
		short := r.next() % normal &^ (1<<(r.next()%uint64(k.fraction)) - 1)
		for _, fraction := range []uint64{1, 2, normal - 1, r.next() % normal, short} {
			sizes = append(sizes, e<<k.fraction+fraction)
		}
	}
	slices.Sort(sizes)
	return slices.Compact(sizes)
}

// The reference itself, held against numbers that are known.
func TestReference(t *testing.T) {
	k := kindOf[own16]()
	for _, c := range []struct {
		text  string
		point int
		want  uint64
	}{{"1", 1, 0x3c00}, {"2049", 4, 0x6800}, {"2051", 4, 0x6802}, {"65519", 5, 0x7bff}, {"6552", 5, 0x7c00}, {"65519999", 5, 0x7bff}, {"29802322387695312", -7, 0}, {"298023223876953125", -7, 0}, {"298023223876953126", -7, 1}, {"1", 400, 0x7c00}, {"1", -400, 0}} {
		a := decimal(c.text, c.point)
		if got := k.nearest(a); got != c.want {
			t.Errorf("the reference reads 0.%se%d as %#x, want %#x", c.text, c.point, got, c.want)
		}
		for x := max(c.want, 3) - 2; x <= c.want+2 && x < k.infinite(); x++ {
			if got := k.isRead(a, x); got != (x == c.want) {
				t.Errorf("the reference's isRead of 0.%se%d and %#x is %v", c.text, c.point, x, got)
			}
		}
	}
	for point := -400; point <= 400; point++ {
		for _, text := range []string{"1", "10001", "9", "99999"} {
			if got := decimal(text, point).pointOf(); got != point {
				t.Errorf("the reference's Point of 0.%se%d is %d", text, point, got)
			}
		}
	}
	if got := decimal("12345", 2).cut(-2); !slices.Equal(got, list{1234}) {
		t.Errorf("12.345 has %v hundredths, want 1234", got)
	}
	if closer(decimal("1", 1), decimal("3", 1), decimal("2", 1)) != 0 || closer(decimal("11", 1), decimal("3", 1), decimal("2", 1)) != -1 || closer(decimal("11", 1), decimal("1", 1), decimal("2", 1)) != -1 || closer(decimal("1", 1), decimal("25", 1), decimal("2", 1)) != 1 {
		t.Errorf("the reference says wrongly which is closer")
	}
}
