package typed_test

import (
	"math"
	"slices"
	"testing"

	"crucible/api"
	"crucible/typed"
	"crucible/value"
)

// P25.7: whole numbers are read as what they were, of whatever kind and order of bytes, and may be.
func TestIntsAndBack(t *testing.T) {
	r := rule{2505}
	made := 0
	for range 20000 {
		k := pick(&r, kindsOf("us")...)
		l := r.numbers(k, r.below(8))
		for _, little := range orders {
			v, err := typed.Ints(l, k.elem, little)
			if err != nil {
				continue
			}
			made++
			if err := value.Check(v); err != nil {
				t.Errorf("%s may not be: %v", show(v), err)
			}
			readsInts(t, v, l...)
			plain, err := typed.Plain(v)
			if err != nil || len(plain.Kids) != len(l) {
				t.Errorf("Plain(%s) = %s, %v", show(v), show(plain), err)
			}
			for i, n := range l {
				if !same(plain.Kids[i], num(n)) {
					t.Errorf("Plain(%s) = %s, want %d at %d", show(v), show(plain), n, i)
				}
			}
		}
	}
	if made < 15000 {
		t.Errorf("%d made", made)
	}
}

// P25.7: floats likewise, the signs of noughts too.
func TestFloatsAndBack(t *testing.T) {
	r := rule{2506}
	made := map[api.Elem]int{}
	for range 20000 {
		l := r.floats(r.below(4))
		for _, k := range kindsOf("f") {
			for _, little := range orders {
				v, err := typed.Floats(l, k.elem, little)
				if err != nil {
					continue
				}
				made[k.elem]++
				if err := value.Check(v); err != nil {
					t.Errorf("%s may not be: %v", show(v), err)
				}
				readsFloats(t, v, l...)
			}
		}
	}
	if made[api.Float16] < 8000 || made[api.Float32] < 10000 || made[api.Float64] != 40000 {
		t.Errorf("%v made", made)
	}
}

// P25.7: complex numbers likewise.
func TestComplexesAndBack(t *testing.T) {
	r := rule{2507}
	for range 10000 {
		l := r.complexes(r.below(8))
		v := typed.Complexes(l)
		if err := value.Check(v); err != nil {
			t.Errorf("%s may not be: %v", show(v), err)
		}
		readsComplexes(t, v, l...)
	}
}

// P25.7: a typed array and its Plain are read alike, refusals too; as floats but for the sign of -0.
func TestPlainIsReadAlike(t *testing.T) {
	r := rule{2508}
	ints, floats, refusals := 0, 0, 0
	for range 30000 {
		v := r.array(r.below(4))
		plain, err := typed.Plain(v)
		if err != nil {
			t.Errorf("Plain(%s): %v", show(v), err)
			continue
		}
		if err := value.Check(plain); err != nil {
			t.Errorf("%s may not be: %v", show(plain), err)
		}
		a, wrongA := typed.ToInts(v)
		b, wrongB := typed.ToInts(plain)
		if !slices.Equal(a, b) || tells(wrongA) != tells(wrongB) {
			t.Errorf("ToInts(%s) = %v, %v; of its Plain %v, %v", show(v), a, wrongA, b, wrongB)
		}
		c, wrongC := typed.ToFloats(v)
		d, wrongD := typed.ToFloats(plain)
		for i, x := range c {
			if x == 0 {
				c[i] = 0
			}
		}
		if !slices.Equal(allBits(c), allBits(d)) || tells(wrongC) != tells(wrongD) {
			t.Errorf("ToFloats(%s) = %v, %v; of its Plain %v, %v", show(v), c, wrongC, d, wrongD)
		}
		ints, floats = ints+len(a), floats+len(c)
		if wrongA != nil || wrongC != nil {
			refusals++
		}
	}
	if ints < 5000 || floats < 20000 || refusals < 5000 {
		t.Errorf("%d whole numbers, %d floats, %d refused", ints, floats, refusals)
	}
}

// P25.7: all patterns of bytes are some element, which made again gives the bytes, but for floats that are no number.
func TestAllBytesAreElements(t *testing.T) {
	r := rule{2509}
	for range 30000 {
		k, little := pick(&r, kinds...), r.below(2) == 0
		bytes := r.bits(k)
		if little {
			bytes = turned(bytes)
		}
		v := tag(k.tagOf(little), raw(bytes))
		plain, err := typed.Plain(v)
		if err != nil || len(plain.Kids) != 1 {
			t.Errorf("Plain(%s) = %s, %v", show(v), show(plain), err)
			continue
		}
		if k.sort == floating {
			l, err := typed.ToFloats(v)
			if err != nil || len(l) != 1 {
				t.Errorf("ToFloats(%s) = %v, %v", show(v), l, err)
				continue
			}
			if !math.IsNaN(l[0]) {
				makesFloats(t, l, k.elem, little, v)
			}
			continue
		}
		// Of what no int64 has there is no list to make it from.
		if l, err := typed.ToInts(v); err == nil {
			makesInts(t, l, k.elem, little, v)
		} else if k.elem != api.Uint64 {
			t.Errorf("ToInts(%s): %v", show(v), err)
		}
	}
}
