package typed_test

import (
	"math"
	"math/big"
	"strings"
	"testing"

	"crucible/api"
	"crucible/value"
)

// rule makes numbers that look like any, the same in each run.
type rule struct{ state uint64 }

func (r *rule) next() uint64 {
	r.state += 0x9e3779b97f4a7c15
	z := r.state
	z = (z ^ z>>30) * 0xbf58476d1ce4e5b9
	z = (z ^ z>>27) * 0x94d049bb133111eb
	return z ^ z>>31
}

func (r *rule) below(n int) int { return int(r.next() % uint64(n)) }

// seldom: in one of twelve cases.
func (r *rule) seldom() bool { return r.below(12) == 0 }

func pick[T any](r *rule, l ...T) T { return l[r.below(len(l))] }

// edges are exponents of 2 at which a kind of numbers turns.
var edges = []int{0, 1, 7, 8, 10, 11, 15, 16, 23, 24, 31, 32, 52, 53, 54, 62, 63, 64, 65}

// integer makes a whole number, those about the edges of a kind more often than others.
func (r *rule) integer() *big.Int {
	n := new(big.Int).SetUint64(r.next() >> r.below(64))
	switch r.below(6) {
	case 0:
		n.SetUint64(uint64(r.below(140)))
	case 1, 2:
		n.Lsh(big.NewInt(1), uint(pick(r, edges...)))
		n.Add(n, big.NewInt(int64(r.below(5)-2)))
	case 3:
		n.Lsh(n, uint(r.below(100)))
	}
	if r.below(2) == 0 {
		n.Neg(n)
	}
	return n
}

// small makes one of the language's numbers.
func (r *rule) small() int64 {
	for {
		if n := r.integer(); n.IsInt64() {
			return n.Int64()
		}
	}
}

// bits makes the bytes of an element, those of floats about the places where something turns more often than others.
func (r *rule) bits(k kind) string {
	x := r.next() >> (64 - 8*k.size)
	top, fraction := map[int]int{1: 4, 2: 5, 4: 8, 8: 11}[k.size], map[int]int{1: 3, 2: 10, 4: 23, 8: 52}[k.size]
	switch r.below(6) {
	case 0:
		x = pick(r, 0, 1, 1<<(8*k.size-1), 1<<(8*k.size-1)-1, 1<<(8*k.size-1)+1, ^uint64(0))
	case 1:
		x = pick[uint64](r, 0, 1, 1<<(top-1)-1, 1<<(top-1), 1<<top-2, 1<<top-1, 1<<top) << fraction
		x += pick[uint64](r, 0, 0, 1, 1<<(fraction-1), ^uint64(0))
	case 2:
		if bytes, ok := k.ofNumber(r.integer()); ok {
			return bytes
		}
	}
	return string(new(big.Int).SetUint64(x << (64 - 8*k.size) >> (64 - 8*k.size)).FillBytes(make([]byte, k.size)))
}

// ofNumber is the element that is a whole number; false, if none is.
func (k kind) ofNumber(n *big.Int) (string, bool) {
	if k.sort == floating {
		f, ok := exact(n)
		bytes, has := k.bytesOfFloat(f)
		return bytes, ok && has
	}
	bytes, ok := k.bytesOf(n.Int64())
	return bytes, ok && n.IsInt64()
}

// float makes any, those that have a pattern of another width more often than others.
func (r *rule) float() float64 {
	switch r.below(6) {
	case 0:
		return pick(r, 0, math.Copysign(0, -1), 1.5, 0.1, math.Inf(1), math.Inf(-1), math.NaN(), math.Float64frombits(0xfff0000000000001), math.SmallestNonzeroFloat64, math.MaxFloat64, math.MaxFloat32, math.SmallestNonzeroFloat32, 65504, 65520)
	case 1:
		f, _ := new(big.Float).SetInt(r.integer()).Float64()
		return f
	case 2:
		return math.Float64frombits(r.next())
	}
	return patternOf(r.bits(pick(r, kindsOf("f")...)))
}

func (r *rule) floats(n int) (out []float64) {
	for range n {
		out = append(out, r.float())
	}
	return out
}

func (r *rule) complexes(n int) (out []complex128) {
	for range n {
		out = append(out, complex(r.float(), r.float()))
	}
	return out
}

// numbers makes such as one kind has; now and then any.
func (r *rule) numbers(k kind, n int) (out []int64) {
	for range n {
		x := r.small()
		if _, ok := k.bytesOf(x); !ok && !r.seldom() {
			x = int64(r.below(100))
		}
		out = append(out, x)
	}
	return out
}

// array makes a typed array of n elements.
func (r *rule) array(n int) api.Value {
	k, little := pick(r, kinds...), r.below(2) == 0
	bytes := ""
	for range n {
		one := r.bits(k)
		if little {
			one = turned(one)
		}
		bytes += one
	}
	if k.elem == api.Uint8 && r.below(2) == 0 {
		return tag(68, raw(bytes))
	}
	return tag(k.tagOf(little), raw(bytes))
}

// number makes one as a value.
func (r *rule) number() api.Value {
	if r.below(3) == 0 {
		return numberOf(r.float())
	}
	return wholeOf(r.integer())
}

// plain makes a value that is no container, and seldom a number.
func (r *rule) plain() api.Value {
	return pick(r, null, no, yes, text(""), text("a"), text("1"), raw(""), raw("\x01\x02"), simple(0), simple(255), api.Value{Kind: api.VExt, Ext: 64, Text: "ab"}, r.number())
}

// list makes one of n numbers; seldom something else stands in it.
func (r *rule) list(n int) api.Value {
	var kids []api.Value
	for range n {
		kids = append(kids, pick(r, wholeOf(big.NewInt(r.small())), num(int64(r.below(300))), r.number()))
	}
	if n > 0 && r.below(6) == 0 {
		kids[r.below(n)] = r.value(2)
	}
	return list(kids...)
}

// row makes a typed array or a list of n numbers.
func (r *rule) row(n int) api.Value {
	if r.below(2) == 0 {
		return r.list(n)
	}
	return r.array(n)
}

// nearly makes what is almost a typed array.
func (r *rule) nearly() api.Value {
	v := r.array(r.below(5))
	switch r.below(4) {
	case 0:
		v.N = pick(r, 0, 1, 63, 76, 83, 87, 64+uint64(r.below(24)), 320+uint64(r.below(24)), 1<<64-1)
	case 1:
		v.Kids[0].Text += strings.Repeat("a", r.below(9))
	case 2:
		v.Kids[0] = r.value(1)
	case 3:
		v.Kids[0].Kind = api.VText
		v.Kids[0].Text = strings.Repeat("a", len(v.Kids[0].Text))
	}
	return v
}

// value makes one that may be, with at most so many containers in one another, most often one of which numbers can be read.
func (r *rule) value(depth int) api.Value {
	n := r.below(6)
	if depth < 2 {
		return pick(r, r.plain(), r.array(n), list())
	}
	switch r.below(9) {
	case 0:
		return r.plain()
	case 1:
		return r.nearly()
	case 2, 3:
		return r.array(n)
	case 4:
		return r.list(n)
	case 5, 6:
		if r.below(5) == 0 {
			return list(r.row(n), r.row(r.below(6)))
		}
		return list(r.row(n), r.row(n))
	case 7:
		return object(text("a"), r.value(depth-1))
	}
	return pick(r, list(r.row(n)), list(r.row(n), r.row(n), r.row(n)), list(r.row(n), r.value(depth-1)), tag(64, r.value(depth-1)))
}

// spoiled is v with n of its nodes changed, most often to what may not be.
func (r *rule) spoiled(v api.Value, n int) api.Value {
	v = value.Copy(v)
	for range n {
		node := &v
		for len(node.Kids) > 0 && r.below(3) > 0 {
			node = &node.Kids[r.below(len(node.Kids))]
		}
		r.change(node)
	}
	return v
}

func (r *rule) change(v *api.Value) {
	switch r.below(9) {
	case 0:
		v.Kind = api.Kind(r.below(15) - 1)
	case 1:
		v.N = pick[uint64](r, 0, 1, 2, 3, 20, 23, 24, 255, 256, 1<<64-1)
	case 2:
		v.Int.Neg = !v.Int.Neg
	case 3:
		v.Int.Mag = pick(r, api.Nat{}, api.Nat{0}, api.Nat{1}, api.Nat{5, 0}, api.Nat{1, 1 << 31}, api.Nat{0, 0, 1}, api.Nat{1, 0, 1})
	case 4:
		v.Bits = pick[uint64](r, 0, 1, 1<<63, half3, 0x3ff0000000000000, plus, minus, noNumber, noNumber+1, 1<<64-1)
	case 5:
		v.Ext = pick[int8](r, -128, -1, 0, 1)
	case 6:
		v.Text = pick(r, "", "a", "\xff", "a\x80", "\xed\xa0\x80", "é")
	case 7:
		v.Kids = append(v.Kids, r.value(2))
	case 8:
		v.Kids = v.Kids[:len(v.Kids)/2]
	}
}

// anything is a struct with anything in it, most often one that may be.
func (r *rule) anything() api.Value {
	v := r.value(4)
	if r.below(4) > 0 {
		return v
	}
	return r.spoiled(v, 1+r.below(3))
}

// The samples themselves: there is enough of each sort.
func TestSamples(t *testing.T) {
	r := rule{2501}
	sorts := map[string]int{}
	met := func(name string, ok bool) {
		if ok {
			sorts[name]++
		}
	}
	for range 8000 {
		v := r.value(4)
		if err := value.Check(v); err != nil {
			t.Fatalf("%s may not be: %v", show(v), err)
		}
		ints, e := read(v, numeral.toInt)
		met("whole numbers", len(ints) > 0)
		met("no whole numbers", e != told{} && e != told{rep, ""})
		floats, e := read(v, numeral.toBits)
		met("floats", len(floats) > 0)
		met("no floats", e != told{} && e != told{rep, ""})
		met("no row", e == told{rep, ""})
		both, e := readComplexes(v)
		met("complex", len(both) > 0)
		met("not as many", e == told{rep, "/1"})
		met("first part", strings.HasPrefix(e.path, "/0"))
		met("second part", strings.HasPrefix(e.path, "/1/"))
		plain, e := readPlain(v)
		met("typed", len(plain.Kids) > 0)
		met("may not be", value.Check(r.anything()) != nil)
	}
	for _, name := range []string{"whole numbers", "no whole numbers", "floats", "no floats", "no row", "complex", "not as many", "first part", "second part", "typed", "may not be"} {
		if sorts[name] < 150 {
			t.Errorf("%s: %d", name, sorts[name])
		}
	}
	for _, k := range kinds {
		wrong, negative, fractions := 0, 0, 0
		for range 1000 {
			one := k.element(r.bits(k))
			if n, ok := one.toInt(); !ok {
				wrong++
			} else if n < 0 {
				negative++
			}
			if bits, ok := one.toBits(); ok && numberOf(math.Float64frombits(bits)).Kind == api.VFloat {
				fractions++
			}
		}
		if k.sort == floating && (fractions < 100 || wrong < 100 || negative < 20) || k.sort == signed && negative < 100 {
			t.Errorf("of the kind %d: %d are no whole numbers, %d below 0, %d fractions", k.elem, wrong, negative, fractions)
		}
	}
}
