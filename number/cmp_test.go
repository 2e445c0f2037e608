package number_test

import (
	"math/big"
	"slices"
	"testing"

	"crucible/api"
	"crucible/number"
)

func cmpIs(t *testing.T, a, b api.Value, want int, ok bool) {
	t.Helper()
	if got, is := number.Cmp(a, b); got != want || is != ok {
		t.Errorf("Cmp(%s, %s) = %d, %v, want %d, %v", show(a), show(b), got, is, want, ok)
	}
}

// below: a is below b, whichever is asked first.
func below(t *testing.T, a, b api.Value) {
	t.Helper()
	cmpIs(t, a, b, -1, true)
	cmpIs(t, b, a, 1, true)
}

// P15.4: the chapter's examples.
func TestCmpKnown(t *testing.T) {
	below(t, num("1"), float(half3))
	below(t, ofBig(power(1024, 0)), float(plus))
	cmpIs(t, ofBig(power(1024, 0)), number.Of(uint64(greatest)), 1, true)
	below(t, num("-3"), float(0xc004000000000000))
	cmpIs(t, num("1"), float(noNum), 0, false)
	cmpIs(t, num("1"), text("a"), 0, false)
	cmpIs(t, float(noNum), float(noNum), 0, false)
}

// P15.4: numbers in their order, each held against each: what stands ahead is below.
func TestCmpRises(t *testing.T) {
	const sign = 1 << 63
	long := make(api.Nat, api.MaxLimbs+5)
	long[api.MaxLimbs+4] = 1
	top := new(big.Int).Sub(power(1024, 0), power(971, 0))
	rising := []api.Value{
		float(minus), limbs(true, long...), both(power(1024, 0))[1], both(power(1024, -1))[1], both(top)[1],
		num("-4503599627370496"), float(sign | 0x432fffffffffffff), num("-4503599627370495"), float(sign | 0x432ffffffffffffd), num("-4503599627370494"),
		num("-3"), float(0xc004000000000000), num("-2"), float(sign | half3), num("-1"), float(sign | 0x3fefffffffffffff), float(sign | 0x3fe0000000000000), float(sign | 1<<52), float(sign | 1),
		num("0"), float(1), float(1<<52 - 1), float(0x3fe0000000000000), float(0x3fefffffffffffff), num("1"), float(0x3ff0000000000001), float(half3), num("2"), float(0x4004000000000000), num("3"),
		num("4503599627370494"), float(0x432ffffffffffffd), num("4503599627370495"), float(0x432fffffffffffff), num("4503599627370496"), num("9007199254740992"), num("9007199254740993"), num("18446744073709551616"),
		ofBig(top), ofBig(power(1024, -1)), ofBig(power(1024, 0)), ofBig(power(1024, 1)), limbs(false, long...), float(plus),
	}
	for i, a := range rising {
		cmpIs(t, a, a, 0, true)
		for _, b := range rising[i+1:] {
			below(t, a, b)
		}
	}
}

// neighbours are the whole numbers on either side of a float, and those next to them.
func neighbours(v api.Value) []api.Value {
	n, ok := numberOf(v)
	if !ok || n == nil || n.IsInf() {
		return nil
	}
	cut, _ := n.Int(nil)
	var out []api.Value
	for more := int64(-2); more <= 2; more++ {
		out = append(out, ofBig(new(big.Int).Add(cut, big.NewInt(more))))
	}
	return out
}

// P15.4: whole numbers against the floats that they stand next to.
func TestCmpNeighbours(t *testing.T) {
	r := rule{1541}
	all := floats()
	for range 20000 {
		all = append(all, valueOf(double.number(r.float64())))
	}
	for _, v := range all {
		for _, w := range neighbours(v) {
			want, ok := wantCmp(v, w)
			cmpIs(t, v, w, want, ok)
			cmpIs(t, w, v, -want, ok)
		}
		if t.Failed() {
			break
		}
	}
}

// P15.4: numbers at the edges, each against each.
func TestCmpPairs(t *testing.T) {
	all := floats()
	for i, v := range wholes() {
		if i%3 == 0 {
			all = append(all, v)
		}
	}
	numbers := make([]*big.Float, len(all))
	for i, v := range all {
		numbers[i], _ = numberOf(v)
	}
	seen := map[int]int{}
	for i, a := range all {
		for j, b := range all {
			if numbers[i] == nil || numbers[j] == nil {
				cmpIs(t, a, b, 0, false)
				continue
			}
			want := numbers[i].Cmp(numbers[j])
			seen[want]++
			cmpIs(t, a, b, want, true)
		}
		if t.Failed() {
			break
		}
	}
	if seen[-1] < 1000 || seen[0] < 100 || seen[1] < 1000 {
		t.Errorf("looked at %v", seen)
	}
}

// P15.4, R2: false where one of the two is no number, or none, or may not be, and 0 beside it.
func TestCmpNone(t *testing.T) {
	none := slices.Concat(others(), wrong(), []api.Value{float(noNum)})
	some := []api.Value{limbs(false), num("1"), num("-5"), ofBig(power(1024, 0)), float(half3), float(plus), float(minus), float(1)}
	for i, v := range none {
		cmpIs(t, v, v, 0, false)
		cmpIs(t, v, none[(i*7+3)%len(none)], 0, false)
		for _, w := range some {
			cmpIs(t, v, w, 0, false)
			cmpIs(t, w, v, 0, false)
		}
	}
}
