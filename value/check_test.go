package value_test

import (
	"fmt"
	"math"
	"slices"
	"strings"
	"testing"

	"crucible/api"
	"crucible/value"
)

func checks(t *testing.T, v api.Value, want told) {
	t.Helper()
	if err := value.Check(v); !isTold(err, want) {
		t.Errorf("Check(%s): %.200v; want %.200v", show(v), err, want)
	}
}

func mayBe(t *testing.T, v api.Value)  { t.Helper(); checks(t, v, told{}) }
func mayNot(t *testing.T, v api.Value) { t.Helper(); checks(t, v, told{err: api.ErrArg}) }

// P14.1: the chapter's examples.
func TestCheckKnown(t *testing.T) {
	for _, v := range []api.Value{num(5), list(num(1), mapped(text("a"), null())), tag(1, num(2)), float(half3), simple(255), deep(128)} {
		mayBe(t, v)
	}
	for _, v := range []api.Value{
		wrong(), {Kind: api.VNull, N: 1}, boolean(2), limbs(false, 5, 0), limbs(true),
		float(math.Float64bits(1)), float(1 << 63), float(noNum + 1),
		mapped(text("b"), num(1), text("a"), num(2)),
		tag(2, null()), tag(1), simple(20), simple(24),
	} {
		mayNot(t, v)
	}
	checks(t, list(num(1), text("\xff")), told{err: api.ErrArg, path: "/1"})
	checks(t, mapped(wrong(), num(1)), told{err: api.ErrArg, path: "/0"})
	checks(t, deep(129), told{err: api.ErrLimit, path: strings.Repeat("/0", 128)})
	checks(t, list(num(0), deep(129)), told{err: api.ErrLimit, path: "/1" + strings.Repeat("/0", 127)})
	checks(t, list(deep(129), wrong()), told{err: api.ErrArg, path: "/1"})
}

// P14.1: every kind that there is, and every number that is no kind, with nothing in its fields.
func TestCheckKinds(t *testing.T) {
	empty := []api.Kind{api.VNull, api.VBool, api.VInt, api.VText, api.VBytes, api.VList, api.VMap, api.VSimple, api.VExt}
	for k := math.MinInt8; k <= math.MaxInt8; k++ {
		v := api.Value{Kind: api.Kind(k)}
		if slices.Contains(empty, v.Kind) {
			mayBe(t, v)
			mayBe(t, list(v))
		} else {
			mayNot(t, v)
			checks(t, list(v), told{err: api.ErrArg, path: "/0"})
		}
	}
}

// P14.1: of each kind a value that may be, with each field in turn not zero: it may be just if the kind uses that field.
func TestCheckUnused(t *testing.T) {
	samples := []struct {
		v    api.Value
		uses string
	}{
		{null(), ""}, {boolean(0), "N"}, {num(0), "Mag"}, {float(plus), "Bits"}, {text(""), "Text"}, {raw(""), "Text"}, {list(), "Kids"}, {mapped(), "KidsTwo"}, {tag(0, null()), "N"}, {simple(0), "N"}, {ext(0, ""), "Ext Text"},
	}
	fills := []struct {
		name string
		fill func(v *api.Value)
	}{
		{"N", func(v *api.Value) { v.N = 1 }},
		{"Neg", func(v *api.Value) { v.Int.Neg = true }},
		{"Mag", func(v *api.Value) { v.Int.Mag = api.Nat{1} }},
		{"Nought", func(v *api.Value) { v.Int.Mag = api.Nat{0} }},
		{"Bits", func(v *api.Value) { v.Bits = noNum }},
		{"BitsOne", func(v *api.Value) { v.Bits = half3 }},
		{"Ext", func(v *api.Value) { v.Ext = 1 }},
		{"ExtLess", func(v *api.Value) { v.Ext = -128 }},
		{"Text", func(v *api.Value) { v.Text = "a" }},
		{"Kids", func(v *api.Value) { v.Kids = append(v.Kids, null()) }},
		{"KidsTwo", func(v *api.Value) { v.Kids = append(v.Kids, null(), null()) }},
	}
	uses := func(have, name string) bool {
		switch name {
		case "BitsOne", "ExtLess":
			name = strings.TrimSuffix(strings.TrimSuffix(name, "One"), "Less")
		}
		return slices.Contains(strings.Fields(have), name) || have == "Kids" && name == "KidsTwo"
	}
	for _, s := range samples {
		mayBe(t, s.v)
		for _, f := range fills {
			v := copied(s.v)
			f.fill(&v)
			if uses(s.uses, f.name) {
				mayBe(t, v)
			} else {
				mayNot(t, v)
				checks(t, tag(9, list(null(), v)), told{err: api.ErrArg, path: "/0/1"})
			}
		}
	}
}

// P14.1, R4: a list that is empty but not nil is as one that is nil.
func TestCheckEmpty(t *testing.T) {
	for _, v := range []api.Value{null(), boolean(1), num(0), float(half3), text("a"), raw("\xff"), list(), mapped(), simple(23), ext(-1, "")} {
		v.Int.Mag, v.Kids = api.Nat{}, []api.Value{}
		mayBe(t, v)
		v.Int.Mag, v.Kids = make(api.Nat, 0, 4), make([]api.Value, 3, 5)[:0]
		mayBe(t, v)
	}
	v := tag(1, null())
	v.Int.Mag = api.Nat{}
	mayBe(t, v)
	v.Kids = v.Kids[:0]
	mayNot(t, v)
}

// P14.1: the numbers of bools, simple values and tags.
func TestCheckNumbers(t *testing.T) {
	numbers := numbersN
	for n := range uint64(600) {
		numbers = append(numbers, n)
	}
	for i := range 64 {
		numbers = append(numbers, 1<<i, 1<<i+1, 1<<i-1, 1<<i+20)
	}
	for _, n := range numbers {
		for v, ok := range map[*api.Value]bool{
			{Kind: api.VBool, N: n}:                               n < 2,
			{Kind: api.VSimple, N: n}:                             n <= 19 || n == 23 || 32 <= n && n <= 255,
			{Kind: api.VTag, N: n, Kids: []api.Value{boolean(1)}}: n != 2 && n != 3,
		} {
			if ok {
				mayBe(t, *v)
			} else {
				mayNot(t, *v)
			}
		}
	}
}

// P14.1: whole numbers in normal form and not.
func TestCheckInts(t *testing.T) {
	for _, l := range []api.Nat{{1}, {0, 1}, {math.MaxUint32}, {0, 0, 0, 1 << 31}, make(api.Nat, 1000)} {
		for _, neg := range []bool{false, true} {
			if len(l) == 1000 {
				l[999] = 1
			}
			mayBe(t, limbs(neg, l...))
			for n := 1; n < 4; n++ {
				mayNot(t, limbs(neg, append(slices.Clone(l), make(api.Nat, n)...)...))
			}
		}
	}
	mayBe(t, limbs(false))
	mayNot(t, limbs(true))
	for n := 1; n < 5; n++ {
		mayNot(t, limbs(false, make(api.Nat, n)...))
		mayNot(t, limbs(true, make(api.Nat, n)...))
	}
}

// P14.1: patterns, at the edges and anywhere.
func TestCheckFloats(t *testing.T) {
	r := rule{1401}
	l := slices.Clone(patterns)
	for e := range uint64(1 << 11) {
		for _, fraction := range []uint64{0, 1, 1 << 51, 1<<52 - 1, 1 << uint(r.below(52)), r.next() >> 12, r.next() >> 12 &^ (1<<r.below(52) - 1)} {
			l = append(l, e<<52|fraction, 1<<63|e<<52|fraction)
		}
	}
	seen := map[bool]int{}
	for _, bits := range l {
		ok := alone(float(bits))
		seen[ok]++
		if ok {
			mayBe(t, float(bits))
		} else {
			mayNot(t, float(bits))
		}
		if t.Failed() {
			break
		}
	}
	if seen[true] < 1000 || seen[false] < 1000 {
		t.Errorf("looked at %v", seen)
	}
	for _, bits := range []uint64{plus, minus, noNum, half3, 1, 1<<63 | 1, 0x432fffffffffffff} {
		mayBe(t, float(bits))
	}
	for _, bits := range []uint64{0, 1 << 63, 0x4330000000000000, 0x7fefffffffffffff, noNum | 1<<63, plus + 1, 1<<63 - 1, 1<<64 - 1, 0xbff0000000000000} {
		mayNot(t, float(bits))
	}
}

// P14.1: texts that are none; the same as bytes and as an extension's may be.
func TestCheckTexts(t *testing.T) {
	for _, s := range texts {
		mayBe(t, text(s))
		mayBe(t, raw(s))
		mayBe(t, ext(5, s))
	}
	for _, s := range others {
		mayNot(t, text(s))
		mayBe(t, raw(s))
		mayBe(t, ext(5, s))
		checks(t, mapped(text("a"), num(1), text(s), num(2)), told{err: api.ErrArg, path: "/2"})
	}
	for b := range 256 {
		s := string([]byte{byte(b)})
		if b < 128 {
			mayBe(t, text(s))
		} else {
			mayNot(t, text(s))
		}
		mayBe(t, raw(s))
	}
}

// P14.1: a map's keys in each order, once and twice, and a number of Kids that is odd.
func TestCheckMaps(t *testing.T) {
	keys := []api.Value{null(), boolean(1), num(-2), num(7), float(half3), text("a"), raw("a"), list(), list(null()), mapped(), tag(0, num(1)), tag(1, num(0)), simple(1), ext(-1, "b"), ext(0, "a")}
	for i, a := range keys {
		mayBe(t, mapped(a, num(1)))
		mayNot(t, mapped(a))
		mayNot(t, mapped(a, a, num(1)))
		for j, b := range keys {
			if i < j {
				mayBe(t, mapped(a, num(2), b, num(1)))
				mayNot(t, mapped(a, num(2), b))
			} else {
				mayNot(t, mapped(a, num(1), b, num(2)))
			}
			for k, c := range keys {
				m := mapped(a, null(), b, null(), c, null())
				if i < j && j < k {
					mayBe(t, m)
				} else {
					mayNot(t, m)
				}
			}
		}
	}
}

// P14.1: a map is told ahead of its keys where they do not rise, and its keys where they do.
func TestCheckMapFirst(t *testing.T) {
	mayNot(t, mapped(wrong(), num(1), wrong(), num(2)))
	mayNot(t, mapped(text("\xff"), num(1), text("a"), num(2)))
	mayNot(t, mapped(wrong()))
	checks(t, mapped(wrong(), num(1), null(), wrong()), told{err: api.ErrArg, path: "/0"})
	checks(t, mapped(null(), wrong(), num(1), wrong()), told{err: api.ErrArg, path: "/1"})
	checks(t, mapped(limbs(false, 5, 0), num(1), num(6), num(1)), told{err: api.ErrArg, path: "/0"})
	mayNot(t, mapped(limbs(false, 5, 0), num(1), num(5), num(1)))
	mayNot(t, mapped(limbs(true, 0), num(1), num(0), num(1)))
	checks(t, mapped(mapped(list(wrong()), num(1)), num(1)), told{err: api.ErrArg, path: "/0/0/0"})
}

// P14.1: a tag has one kid.
func TestCheckTags(t *testing.T) {
	for n := range 5 {
		v := tag(1, slices.Repeat([]api.Value{null()}, n)...)
		if n == 1 {
			mayBe(t, v)
		} else {
			mayNot(t, v)
		}
	}
	mayNot(t, tag(1, wrong(), null()))
	checks(t, tag(1, wrong()), told{err: api.ErrArg, path: "/0"})
	checks(t, tag(1, tag(4, tag(3, null()))), told{err: api.ErrArg, path: "/0/0"})
}

// P14.1, R6: the Path of a node, its numbers as they are counted.
func TestCheckPaths(t *testing.T) {
	for n := range 1200 {
		l := slices.Repeat([]api.Value{num(1)}, 1200)
		l[n] = list(null(), wrong())
		checks(t, list(l...), told{err: api.ErrArg, path: fmt.Sprintf("/%d/1", n)})
		if t.Failed() {
			break
		}
	}
	var kids []api.Value
	for i := range int64(60) {
		kids = append(kids, num(i), null())
	}
	for n := range kids {
		l := slices.Clone(kids)
		l[n].Bits = 1 // in the order of keys this comes behind the number
		checks(t, mapped(l...), told{err: api.ErrArg, path: fmt.Sprintf("/%d", n)})
		checks(t, tag(1, mapped(l...)), told{err: api.ErrArg, path: fmt.Sprintf("/0/%d", n)})
	}
}

// P14.1: of several nodes that may not be the first, a node ahead of those of its Kids, these one behind the other.
func TestCheckFirst(t *testing.T) {
	checks(t, list(list(num(1), wrong()), wrong()), told{err: api.ErrArg, path: "/0/1"})
	checks(t, list(num(1), list(wrong()), wrong()), told{err: api.ErrArg, path: "/1/0"})
	checks(t, list(tag(2, wrong()), wrong()), told{err: api.ErrArg, path: "/0"})
	bad := list(wrong())
	bad.N = 1
	checks(t, list(num(1), bad), told{err: api.ErrArg, path: "/1"})
	// The Kids of what is no container are nodes too, but the node itself stands ahead of them.
	checks(t, list(num(1), api.Value{Kind: api.VText, Kids: []api.Value{wrong()}}), told{err: api.ErrArg, path: "/1"})
}

// P14.1: containers of each kind nested to the limit, and deeper.
func TestCheckDeep(t *testing.T) {
	for _, shape := range []struct {
		make func(api.Value) api.Value
		step string
	}{{inList, "/0"}, {inTag, "/0"}, {asKey, "/0"}, {asValue, "/1"}} {
		for _, n := range []int{0, 1, 126, 127, 128} {
			mayBe(t, within(n, num(7), shape.make))
		}
		for _, n := range []int{0, 1, 126, 127} {
			for _, v := range []api.Value{list(), mapped(), tag(1, null())} {
				mayBe(t, within(n, v, shape.make))
			}
		}
		limit := told{err: api.ErrLimit, path: strings.Repeat(shape.step, 128)}
		for _, n := range []int{129, 130, 200, 1000} {
			checks(t, within(n, num(7), shape.make), limit)
		}
		for _, v := range []api.Value{list(), mapped(), tag(1, null()), list(list()), mapped(null(), num(1))} {
			checks(t, within(128, v, shape.make), limit)
		}
		// What may not be by itself is told, however deep it stands.
		for _, n := range []int{127, 128, 129, 500} {
			checks(t, within(n, wrong(), shape.make), told{err: api.ErrArg, path: strings.Repeat(shape.step, n)})
			checks(t, within(n, list(num(1), text("\xff")), shape.make), told{err: api.ErrArg, path: strings.Repeat(shape.step, n) + "/1"})
		}
	}
}

// P14.1: which container that stands too deep is the first; and that any node that may not be by itself goes ahead.
func TestCheckDeepFirst(t *testing.T) {
	in := strings.Repeat("/0", 127)
	checks(t, list(null(), deep(128), deep(129)), told{err: api.ErrLimit, path: "/1" + in})
	checks(t, list(deep(127), tag(1, deep(126)), deep(128)), told{err: api.ErrLimit, path: "/2" + in})
	checks(t, list(list(deep(127)), tag(1, deep(126))), told{err: api.ErrLimit, path: "/0" + in})
	checks(t, within(127, list(null(), list(), mapped(), list()), inList), told{err: api.ErrLimit, path: in + "/1"})
	checks(t, within(127, list(list(list()), list()), inList), told{err: api.ErrLimit, path: in + "/0"})
	checks(t, mapped(deep(128), null()), told{err: api.ErrLimit, path: "/0" + in})
	checks(t, list(deep(500), list(num(1), wrong())), told{err: api.ErrArg, path: "/1/1"})
	checks(t, list(deep(500), tag(1)), told{err: api.ErrArg, path: "/1"})
	checks(t, mapped(num(1), deep(128), num(0), num(0)), told{err: api.ErrArg})
}

// P14.1: values of any build, with nodes changed.
func TestCheckAny(t *testing.T) {
	r := rule{1402}
	seen := map[error]int{}
	for range 15000 {
		v := r.spoiled(r.value(r.below(5)), r.below(4))
		if r.below(4) == 0 {
			for range 122 + r.below(9) {
				v = pick(&r, []func(api.Value) api.Value{inList, inTag, asKey, asValue})(v)
			}
		}
		want := checked(v)
		seen[want.err]++
		checks(t, v, want)
		if t.Failed() {
			break
		}
	}
	for _, e := range []error{nil, api.ErrArg, api.ErrLimit} {
		if seen[e] < 200 {
			t.Errorf("%v was looked for %d times", e, seen[e])
		}
	}
	for range 10000 {
		v := r.anything(r.below(4))
		checks(t, v, checked(v))
	}
}
