package value_test

import (
	"math"
	"slices"
	"strings"
	"testing"

	"crucible/api"
	"crucible/value"
)

// compares asks both ways round.
func compares(t *testing.T, a, b api.Value, want int) {
	t.Helper()
	if x, y := value.Compare(a, b), value.Compare(b, a); x != want || y != -want {
		t.Errorf("Compare(%s, %s) = %d, the other way round %d; want %d", show(a), show(b), x, y, want)
	}
}

// P14.2: the chapter's examples.
func TestCompareKnown(t *testing.T) {
	compares(t, null(), boolean(0), -1)
	compares(t, num(2), num(10), -1)
	compares(t, num(-1), num(1), -1)
	compares(t, float(half3), text("a"), -1)
	compares(t, text("a"), text("ab"), -1)
	compares(t, list(num(1)), list(num(0), num(0)), 1)
	compares(t, list(), list(null()), -1)
	compares(t, float(minus), float(half3), -1)
	compares(t, float(plus), float(noNum), -1)
	compares(t, tag(1, num(0)), tag(0, num(5)), 1)
	compares(t, ext(-1, ""), ext(0, ""), -1)
}

// ladder asks each against each: those that stand ahead are below.
func ladder(t *testing.T, l []api.Value) {
	t.Helper()
	for i, a := range l {
		compares(t, a, copied(a), 0)
		for _, b := range l[i+1:] {
			compares(t, a, b, -1)
		}
	}
}

// P14.2: the order of values that may be, a rung at a time.
func TestCompareLadder(t *testing.T) {
	ladder(t, []api.Value{
		null(), boolean(0), boolean(1),
		limbs(true, 0, 0, 1), limbs(true, 1, 1), limbs(true, 0, 1), limbs(true, math.MaxUint32), num(-2), num(-1), num(0), num(1), num(2), limbs(false, math.MaxUint32), limbs(false, 0, 1), limbs(false, 1, 1), limbs(false, 0, 2), limbs(false, 0, 0, 1),
		float(minus), float(half3 | 1<<63), float(0xbfe0000000000000), float(1<<63 | 1), float(1), float(0x3fe0000000000000), float(half3), float(0x432fffffffffffff), float(plus), float(noNum),
		text(""), text("\x00"), text("a"), text("a\x00"), text("aa"), text("b"), text("é"), text("ﬀ"), text("😀"),
		raw(""), raw("a"), raw("\x7f"), raw("\x80"), raw("\xff"), raw("\xff\x00"),
		list(), list(null()), list(null(), null()), list(null(), num(1)), list(boolean(0)), list(num(0), num(0)), list(num(1)), list(list()), list(list(), list()), list(list(null())),
		mapped(), mapped(null(), num(1)), mapped(null(), num(1), num(1), num(1)), mapped(null(), num(2)), mapped(num(0), null()), mapped(text("a"), num(1)), mapped(text("b"), num(0)),
		tag(0, num(5)), tag(1, num(0)), tag(1, num(1)), tag(4, null()), tag(1<<64-1, null()),
		simple(0), simple(19), simple(23), simple(32), simple(255),
		ext(-128, "b"), ext(-1, ""), ext(-1, "\xff"), ext(0, ""), ext(0, "a"), ext(0, "ab"), ext(0, "b"), ext(1, ""), ext(127, ""),
	})
}

// P14.2: which field goes ahead of which: of two structs each differs in one field one way and in a later one the other way.
func TestCompareFields(t *testing.T) {
	fills := []func(v *api.Value){
		func(v *api.Value) { v.Kind++ },
		func(v *api.Value) { v.N++ },
		func(v *api.Value) { v.Ext++ },
		func(v *api.Value) { v.Int.Mag[0]++ },
		func(v *api.Value) { v.Bits++ },
		func(v *api.Value) { v.Text += "x" },
		func(v *api.Value) { v.Kids[0].N++ },
		func(v *api.Value) { v.Kids = append(v.Kids, wrong()) },
	}
	for k := -2; k < 14; k++ {
		base := api.Value{Kind: api.Kind(k), N: 5, Int: api.Int{Mag: api.Nat{5}}, Bits: 5, Ext: 5, Text: "m", Kids: []api.Value{boolean(5), null()}}
		compares(t, base, copied(base), 0)
		for i, first := range fills {
			a := copied(base)
			first(&a)
			compares(t, base, a, -1)
			for _, later := range fills[i+1:] {
				b := copied(base)
				later(&b)
				compares(t, b, a, -1)
			}
		}
	}
}

// P14.2: the edges of the fields that are numbers.
func TestCompareEdges(t *testing.T) {
	var kinds, exts, ns []api.Value
	for k := math.MinInt8; k <= math.MaxInt8; k++ {
		kinds = append(kinds, api.Value{Kind: api.Kind(k)})
		exts = append(exts, ext(int8(k), ""))
	}
	for _, n := range []uint64{0, 1, 2, math.MaxInt64, 1 << 63, math.MaxUint64} {
		ns = append(ns, tag(n))
	}
	ladder(t, kinds)
	ladder(t, exts)
	ladder(t, ns)
}

// P14.2: noughts at the ends and the sign of 0 say nothing.
func TestCompareNoughts(t *testing.T) {
	alike := [][]api.Value{
		{limbs(true, 0, 1), limbs(true, 0, 1, 0)},
		{limbs(true, 5), limbs(true, 5, 0), limbs(true, 5, 0, 0, 0)},
		{limbs(false), limbs(true), limbs(false, 0), limbs(true, 0), limbs(true, 0, 0, 0), limbs(false, 0, 0)},
		{limbs(false, 5), limbs(false, 5, 0), limbs(false, 5, 0, 0)},
		{limbs(false, 0, 1), limbs(false, 0, 1, 0)},
	}
	for i, l := range alike {
		for _, a := range l {
			for j, m := range alike {
				for _, b := range m {
					want := 0
					if i != j {
						want = map[bool]int{true: -1, false: 1}[i < j]
					}
					compares(t, a, b, want)
					compares(t, list(null(), a), list(null(), b), want)
				}
			}
		}
	}
}

// P14.2: patterns of every class by the total order.
func TestCompareBits(t *testing.T) {
	rising := []uint64{
		1<<64 - 1, noNum | 1<<63, minus + 1, minus, 0xffefffffffffffff, half3 | 1<<63, 0xbff0000000000000, 1<<63 | 1<<52, 1<<63 | 1, 1 << 63,
		0, 1, 1<<52 - 1, 1 << 52, 0x3ff0000000000000, half3, 0x7fefffffffffffff, plus, plus + 1, noNum - 1, noNum, noNum + 1, 1<<63 - 1,
	}
	var l []api.Value
	for _, bits := range rising {
		l = append(l, float(bits))
	}
	ladder(t, l)
}

// P14.2: texts byte by byte, whatever they are.
func TestCompareTexts(t *testing.T) {
	l := append(slices.Clone(texts), others...)
	for b := range 256 {
		l = append(l, string([]byte{byte(b)}), string([]byte{'a', byte(b)}), string([]byte{byte(b), 'z'}))
	}
	slices.Sort(l)
	l = slices.Compact(l)
	for _, make := range []func(string) api.Value{text, raw, func(s string) api.Value { return ext(-3, s) }} {
		for i, a := range l {
			compares(t, make(a), make(strings.Clone(a)), 0)
			for j := i + 1; j < len(l); j += 1 + i%7 {
				compares(t, make(a), make(l[j]), -1)
			}
		}
	}
}

// P14.2: lists of which one is the beginning of the other, of any kind, and however deep they differ.
func TestCompareKids(t *testing.T) {
	for k := -1; k < 14; k++ {
		make := func(l ...api.Value) api.Value { return api.Value{Kind: api.Kind(k), Kids: l} }
		compares(t, make(), make(wrong()), -1)
		compares(t, make(num(1)), make(num(1), wrong()), -1)
		compares(t, make(num(2)), make(num(1), num(3)), 1)
		compares(t, make(make(num(1))), make(make(num(1)), make()), -1)
		compares(t, make(make(num(1), num(2))), make(make(num(1)), make(num(9))), 1)
	}
	for _, shape := range []func(api.Value) api.Value{inList, inTag, asKey, asValue} {
		compares(t, within(300, num(1), shape), within(300, num(2), shape), -1)
		compares(t, within(300, num(2), shape), within(300, num(2), shape), 0)
	}
	compares(t, within(300, null(), inList), within(301, null(), inList), -1)
}

// P14.2: any two structs.
func TestCompareAny(t *testing.T) {
	r := rule{1411}
	seen := map[int]int{}
	for range 40000 {
		a := r.anything(r.below(4))
		b := r.spoiled(a, r.below(3))
		if r.below(4) == 0 {
			b = r.anything(r.below(4))
		}
		want := compared(a, b)
		seen[want]++
		compares(t, a, b, want)
		x, y := r.value(r.below(4)), r.value(r.below(4))
		compares(t, x, y, compared(x, y))
		if t.Failed() {
			break
		}
	}
	if seen[0] < 1000 || seen[1] < 1000 || seen[-1] < 1000 {
		t.Errorf("looked at %v", seen)
	}
}
