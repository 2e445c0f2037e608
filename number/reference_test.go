package number_test

import (
	"fmt"
	"math"
	"math/big"
	"reflect"
	"slices"
	"sort"
	"strings"
	"testing"

	"crucible/api"
	"crucible/ieee"
)

const (
	plus     = 0x7ff0000000000000
	minus    = 0xfff0000000000000
	noNum    = 0x7ff8000000000000
	half3    = 0x3ff8000000000000 // 1.5
	greatest = 0x7fefffffffffffff
)

// Types of our own, beneath each of which one of the three lies.
type (
	own16 uint16
	own32 uint32
	own64 uint64
)

// widths runs one test at every width and every type of our own.
func widths(t *testing.T, tests ...func(*testing.T)) {
	if len(tests) != 6 {
		t.Fatalf("%d types, want 6", len(tests))
	}
	for i, name := range []string{"uint16", "uint32", "uint64", "own16", "own32", "own64"} {
		t.Run(name, tests[i])
	}
}

// kind is what the document's section Words says of a width: how many bits the exponent and the fraction have, and what is taken from the exponent bits.
type kind struct {
	exponent, fraction uint
	taken              int
}

var (
	half   = kind{5, 10, 25}
	single = kind{8, 23, 150}
	double = kind{11, 52, 1075}
)

func kindOf[T ieee.Bits]() kind {
	switch reflect.TypeFor[T]().Bits() {
	case 16:
		return half
	case 32:
		return single
	}
	return double
}

func (k kind) sign() uint64     { return 1 << (k.exponent + k.fraction) }
func (k kind) infinite() uint64 { return (1<<k.exponent - 1) << k.fraction }

// number is what a pattern is, exactly; nil of no number.
func (k kind) number(x uint64) *big.Float {
	neg, size := x >= k.sign(), x%k.sign()
	exponent, fraction := size>>k.fraction, size%(1<<k.fraction)
	out := new(big.Float).SetPrec(64)
	switch {
	case size > k.infinite():
		return nil
	case size == k.infinite():
		return out.SetInf(neg)
	case exponent == 0:
		out.SetMantExp(out.SetUint64(fraction), 1-k.taken)
	default:
		out.SetMantExp(out.SetUint64(fraction+1<<k.fraction), int(exponent)-k.taken)
	}
	if neg {
		out.Neg(out)
	}
	return out
}

// seek goes through the patterns of a width, which rise with their numbers, for the one that has this number, of 0 the one without the sign bit.
func (k kind) seek(n *big.Float) (uint64, bool) {
	if n == nil {
		return k.infinite() + 1<<(k.fraction-1), true
	}
	abs := new(big.Float).Abs(n)
	size := uint64(sort.Search(int(k.infinite())+1, func(i int) bool { return k.number(uint64(i)).Cmp(abs) >= 0 }))
	if size > k.infinite() || k.number(size).Cmp(abs) != 0 {
		return 0, false
	}
	if n.Sign() < 0 {
		size += k.sign()
	}
	return size, true
}

func toBig(x api.Int) *big.Int {
	out := new(big.Int)
	for _, l := range slices.Backward(x.Mag) {
		out.Lsh(out, 32).Add(out, big.NewInt(int64(l)))
	}
	if x.Neg {
		out.Neg(out)
	}
	return out
}

// ofBig is the value of a whole number.
func ofBig(n *big.Int) api.Value {
	out := api.Value{Kind: api.VInt, Int: api.Int{Neg: n.Sign() < 0}}
	abs := new(big.Int).Abs(n)
	for abs.Sign() > 0 {
		out.Int.Mag = append(out.Int.Mag, uint32(abs.Uint64()))
		abs.Rsh(abs, 32)
	}
	return out
}

// valueOf is the one value of a number.
func valueOf(n *big.Float) api.Value {
	if n != nil && n.IsInt() {
		i, _ := n.Int(nil)
		return ofBig(i)
	}
	bits, ok := double.seek(n)
	if !ok {
		panic("no value has this number")
	}
	return float(bits)
}

// isNumber: is v, in all its fields, as the document's table has VInt or VFloat?
func isNumber(v api.Value) bool {
	if v.N != 0 || v.Ext != 0 || v.Text != "" || len(v.Kids) > 0 {
		return false
	}
	switch v.Kind {
	case api.VInt:
		return v.Bits == 0 && same(v, ofBig(toBig(v.Int)))
	case api.VFloat:
		x := math.Float64frombits(v.Bits)
		isFloat := v.Bits == noNum || !math.IsNaN(x) && (math.IsInf(x, 0) || x != math.Trunc(x))
		return isFloat && !v.Int.Neg && len(v.Int.Mag) == 0
	}
	return false
}

// numberOf is what a value is; false where it is none of the two kinds, or may not be.
func numberOf(v api.Value) (*big.Float, bool) {
	switch {
	case !isNumber(v):
		return nil, false
	case v.Kind == api.VInt:
		return new(big.Float).SetInt(toBig(v.Int)), true
	}
	return double.number(v.Bits), true
}

// wantBits is P15.2 in its own words.
func wantBits(v api.Value) (uint64, bool) {
	n, ok := numberOf(v)
	if !ok {
		return 0, false
	}
	return double.seek(n)
}

// wantNarrow is P15.3 in its own words.
func wantNarrow(v api.Value) (int, uint64, bool) {
	n, ok := numberOf(v)
	if !ok {
		return 0, 0, false
	}
	for _, k := range []kind{half, single, double} {
		if bits, ok := k.seek(n); ok {
			return int(1 + k.exponent + k.fraction), bits, true
		}
	}
	return 0, 0, false
}

// wantCmp is P15.4 in its own words.
func wantCmp(a, b api.Value) (int, bool) {
	x, _ := numberOf(a)
	y, _ := numberOf(b)
	if x == nil || y == nil {
		return 0, false
	}
	return x.Cmp(y), true
}

func float(bits uint64) api.Value { return api.Value{Kind: api.VFloat, Bits: bits} }
func text(s string) api.Value     { return api.Value{Kind: api.VText, Text: s} }
func null() api.Value             { return api.Value{Kind: api.VNull} }

func limbs(neg bool, l ...uint32) api.Value {
	return api.Value{Kind: api.VInt, Int: api.Int{Neg: neg, Mag: l}}
}

// num is a whole number by its decimal digits.
func num(s string) api.Value {
	n, ok := new(big.Int).SetString(s, 10)
	if !ok {
		panic(s)
	}
	return ofBig(n)
}

// power is 2 to the power of n, and so much more.
func power(n uint, more int64) *big.Int {
	out := new(big.Int).Lsh(big.NewInt(1), n)
	return out.Add(out, big.NewInt(more))
}

// both are the values of a whole number and of 0 less it.
func both(n *big.Int) []api.Value {
	return []api.Value{ofBig(n), ofBig(new(big.Int).Neg(n))}
}

// same: field by field, an empty list the same as nil.
func same(a, b api.Value) bool {
	return a.Kind == b.Kind && a.N == b.N && a.Int.Neg == b.Int.Neg && slices.Equal(a.Int.Mag, b.Int.Mag) &&
		a.Bits == b.Bits && a.Ext == b.Ext && a.Text == b.Text && slices.EqualFunc(a.Kids, b.Kids, same)
}

// show tells a value in few words.
func show(v api.Value) string {
	s := fmt.Sprintf("%+v", v)
	if v.Kind == api.VFloat {
		s = fmt.Sprintf("%#x %s", v.Bits, s)
	}
	return strings.ToValidUTF8(s[:min(len(s), 300)], "?")
}

// rule makes numbers that look like any, the same in each run.
type rule struct{ state uint64 }

func (r *rule) next() uint64 {
	r.state += 0x9e3779b97f4a7c15
	x := r.state
	x = (x ^ x>>30) * 0xbf58476d1ce4e5b9
	x = (x ^ x>>27) * 0x94d049bb133111eb
	return x ^ x>>31
}

func (r *rule) below(n int) int { return int(r.next() % uint64(n)) }

func pick[T any](r *rule, l []T) T { return l[r.below(len(l))] }

// integer is a whole number of so many binary digits at most; often its last ones are noughts, so that a pattern has it.
func (r *rule) integer(digits int) *big.Int {
	out := new(big.Int)
	for range digits/64 + 1 {
		out.Lsh(out, 64).Add(out, new(big.Int).SetUint64(r.next()))
	}
	out.Rsh(out, uint(out.BitLen()-min(out.BitLen(), digits)))
	if r.below(2) == 0 {
		n := uint(r.below(digits + 1))
		out.Lsh(out.Rsh(out, n), n)
	}
	if r.below(2) == 0 {
		out.Neg(out)
	}
	return out
}

// float64 is any pattern; half of them near those of small numbers.
func (r *rule) float64() uint64 {
	x := r.next()
	if r.below(2) == 0 {
		return x%(uint64(90)<<52) + uint64(1000)<<52 + x&(1<<63)
	}
	return x
}

// The reference itself, held against numbers that are known.
func TestReference(t *testing.T) {
	for _, c := range []struct {
		k    kind
		bits uint64
		want string
	}{
		{half, 0x3c00, "1"}, {half, 0x8000, "-0"}, {half, 0xc200, "-3"}, {half, 0x7bff, "65504"}, {half, 1, "5.9604644775390625e-08"}, {half, 0xfc00, "-Inf"},
		{single, 0x3fc00000, "1.5"}, {single, 0x4b800001, "16777218"}, {double, greatest, "1.7976931348623157081e+308"}, {double, 0xc1e0000000000000, "-2147483648"},
	} {
		if got := c.k.number(c.bits).Text('g', 20); got != c.want {
			t.Errorf("the reference's number of %#x is %s, want %s", c.bits, got, c.want)
		}
		if back, ok := c.k.seek(c.k.number(c.bits)); !ok || back != c.bits && c.want != "-0" {
			t.Errorf("the reference seeks %#x and finds %#x, %v", c.bits, back, ok)
		}
	}
	r := rule{1501}
	for range 2000 {
		x := r.float64()
		f := math.Float64frombits(x)
		n := double.number(x)
		if n == nil || math.IsNaN(f) {
			if n != nil || !math.IsNaN(f) {
				t.Errorf("the reference's number of %#x is %v", x, n)
			}
		} else if n.Cmp(big.NewFloat(f)) != 0 {
			t.Errorf("the reference's number of %#x is %v", x, n)
		}
	}
	for _, s := range []string{"0", "-1", "4294967296", "-18446744073709551616"} {
		if got := toBig(num(s).Int).String(); got != s {
			t.Errorf("the reference makes %s of %s", got, s)
		}
	}
}
