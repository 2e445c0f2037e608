package ieee_test

import (
	"math/bits"
	"reflect"
	"slices"
	"sort"
	"testing"

	"crucible/api"
	"crucible/ieee"
	"crucible/nat"
)

type list = api.Nat

// Types of our own, beneath each of which one of the three lies.
type (
	own16 uint16
	own32 uint32
	own64 uint64
)

// widths runs one test at every width and every type of our own.
func widths(t *testing.T, tests ...func(*testing.T)) {
	if len(tests) != 6 {
		t.Fatalf("%d types, want 6", len(tests))
	}
	for i, name := range []string{"uint16", "uint32", "uint64", "own16", "own32", "own64"} {
		t.Run(name, tests[i])
	}
}

// kind is what the document's section Words says of a width: how many bits the exponent and the fraction have, and what is taken from the exponent bits.
type kind struct {
	exponent, fraction uint
	taken              int
}

func kindOf[T ieee.Bits]() kind {
	switch reflect.TypeFor[T]().Bits() {
	case 16:
		return kind{5, 10, 25}
	case 32:
		return kind{8, 23, 150}
	}
	return kind{11, 52, 1075}
}

func (k kind) sign() uint64     { return 1 << (k.exponent + k.fraction) }
func (k kind) infinite() uint64 { return (1<<k.exponent - 1) << k.fraction }

func (k kind) split(x uint64) (neg bool, exponent, fraction uint64) {
	exponent, fraction = x>>k.fraction, x%(1<<k.fraction)
	return exponent>>k.exponent == 1, exponent % (1 << k.exponent), fraction
}

func (k kind) isNumber(x uint64) bool { return x%k.sign() <= k.infinite() }
func (k kind) isFinite(x uint64) bool { return x%k.sign() < k.infinite() }

// amount is the exact number m times 2 to the power of e, without a sign.
type amount struct {
	m list
	e int
}

// amountOf is the size of a finite pattern. Of the infinite one it is the number that would come behind the greatest.
func (k kind) amountOf(x uint64) amount {
	_, exponent, fraction := k.split(x)
	if exponent == 0 {
		return amount{nat.From(fraction), 1 - k.taken}
	}
	return amount{nat.From(fraction + 1<<k.fraction), int(exponent) - k.taken}
}

// middle is the number halfway between the pattern x without a sign, and the next one.
func (k kind) middle(x uint64) amount {
	a := k.amountOf(x)
	return amount{odd(a.m), a.e - 1}
}

// finer is the same number, told in steps that are smaller.
func (a amount) finer(n int) amount {
	m, ok := nat.Shl(a.m, n)
	if !ok {
		panic("too long for the reference")
	}
	return amount{m, a.e - n}
}

func (a amount) plus(n uint64) amount { return amount{nat.Add(a.m, nat.From(n)), a.e} }

func (a amount) less(n uint64) amount {
	m, ok := nat.Sub(a.m, nat.From(n))
	if !ok {
		panic("below 0")
	}
	return amount{m, a.e}
}

func (a amount) cmp(b amount) int {
	if a.e > b.e {
		return -b.cmp(a)
	}
	return nat.Cmp(a.m, b.finer(b.e-a.e).m)
}

// odd is twice m and 1 more: m and a half, in halves.
func odd(m list) list { return nat.Add(nat.Add(m, m), list{1}) }

func (a amount) andMore(more bool) amount {
	if more {
		return amount{odd(a.m), a.e - 1}
	}
	return a
}

// nearest seeks the pattern by the document's words: it holds the number against those halfway between two patterns.
func (k kind) nearest(a amount) uint64 {
	return uint64(sort.Search(int(k.infinite()), func(i int) bool {
		c := a.cmp(k.middle(uint64(i)))
		return c < 0 || c == 0 && i%2 == 0
	}))
}

// signed is the pattern of that size with the sign.
func (k kind) signed(neg bool, size uint64) uint64 {
	if neg {
		return size + k.sign()
	}
	return size
}

// rule makes numbers that look like any, the same in each run.
type rule struct{ state uint64 }

func (r *rule) next() uint64 {
	r.state += 0x9e3779b97f4a7c15
	z := r.state
	z = (z ^ z>>30) * 0xbf58476d1ce4e5b9
	z = (z ^ z>>27) * 0x94d049bb133111eb
	return z ^ z>>31
}

func (r *rule) below(n int) int { return int(r.next() % uint64(n)) }

// list has that many binary digits, with runs of noughts and ones among them.
func (r *rule) list(digits int) list {
	m := make(list, digits/32+1)
	for i := range m {
		switch r.below(4) {
		case 0:
			m[i] = 0
		case 1:
			m[i] = 1<<32 - 1
		default:
			m[i] = uint32(r.next())
		}
	}
	out, _, _ := nat.Shr(m, len(m)*32-digits)
	if digits > 0 && nat.Len(out) < digits {
		top, _ := nat.Shl(list{1}, digits-1)
		out = nat.Add(out, top)
	}
	return out
}

// edges are the sizes that the document names, and their neighbours.
func edges[T ieee.Bits]() []uint64 {
	k := kindOf[T]()
	normal, one, inf := uint64(1)<<k.fraction, uint64(k.taken-int(k.fraction))<<k.fraction, k.infinite()
	return []uint64{
		0, 1, 2, 3, normal/2 - 1, normal / 2, normal - 2, normal - 1, normal, normal + 1, 2*normal - 1, 2 * normal, 2*normal + 1,
		one - 1, one, one + 1, one + normal/2, one + normal, one + uint64(k.fraction)*normal - 1, one + uint64(k.fraction)*normal, one + uint64(k.fraction+1)*normal - 1, one + uint64(k.fraction+1)*normal,
		inf - normal - 1, inf - normal, inf - 2, inf - 1, inf, inf + 1, inf + normal/2 - 1, inf + normal/2, inf + normal/2 + 1, inf + normal - 1,
	}
}

// signs are the patterns of the sizes with each sign.
func signs[T ieee.Bits](sizes []uint64) []T {
	k := kindOf[T]()
	var out []T
	for _, size := range sizes {
		out = append(out, T(size), T(size+k.sign()))
	}
	return out
}

func few[T ieee.Bits]() []T { return signs[T](edges[T]()) }

// many are all patterns of 16 bits; of the others those with every exponent and some fractions.
func many[T ieee.Bits]() []T {
	k := kindOf[T]()
	sizes := edges[T]()
	if k.exponent == 5 {
		sizes = nil
		for size := range k.sign() {
			sizes = append(sizes, size)
		}
		return signs[T](sizes)
	}
	r := rule{uint64(k.fraction)}
	normal := uint64(1) << k.fraction
	for e := range uint64(1) << k.exponent {
		whole := normal - 1<<(e%uint64(k.fraction)+1)%normal
		for _, fraction := range []uint64{0, 1, normal / 2, normal - 1, whole, r.next() % normal} {
			sizes = append(sizes, e<<k.fraction+fraction%normal)
		}
	}
	slices.Sort(sizes)
	return signs[T](slices.Compact(sizes))
}

// finite are the sizes of those of the patterns that are finite.
func finite[T ieee.Bits](xs []T) []uint64 {
	k := kindOf[T]()
	var out []uint64
	for _, x := range xs {
		if k.isFinite(uint64(x)) && uint64(x) < k.sign() {
			out = append(out, uint64(x))
		}
	}
	return out
}

// The reference itself, held against numbers that are known.
func TestReference(t *testing.T) {
	k := kindOf[own16]()
	for _, c := range []struct {
		a    amount
		want uint64
	}{{amount{list{1}, 0}, 0x3c00}, {amount{list{2049}, 0}, 0x6800}, {amount{list{2051}, 0}, 0x6802}, {amount{list{65519}, 0}, 0x7bff}, {amount{list{65520}, 0}, 0x7c00}, {amount{list{1}, -25}, 0}, {amount{list{3}, -26}, 1}, {amount{nil, 3}, 0}, {amount{list{1}, 999}, 0x7c00}} {
		if got := k.nearest(c.a); got != c.want {
			t.Errorf("the reference's nearest pattern to %v is %#x, want %#x", c.a, got, c.want)
		}
	}
	r := rule{3}
	for digits := range 200 {
		if m := r.list(digits); nat.Len(m) != digits {
			t.Errorf("a list of %d digits, want %d", nat.Len(m), digits)
		}
	}
	if bits.UintSize != 64 {
		t.Errorf("the tests ask for an int of 64 bits")
	}
}
