package typed_test

import (
	"math"
	"slices"
	"testing"

	"crucible/api"
	"crucible/typed"
)

var below = math.Copysign(0, -1)

// orders are both orders of bytes.
var orders = []bool{false, true}

func makesInts(t *testing.T, l []int64, e api.Elem, little bool, want api.Value) {
	t.Helper()
	if v, err := typed.Ints(l, e, little); err != nil || !same(v, want) {
		t.Errorf("Ints(%.300v, %d, %v) = %s, %v, want %s", l, e, little, show(v), err, show(want))
	}
}

func refusesInts(t *testing.T, l []int64, e api.Elem, code int, path string) {
	t.Helper()
	for _, little := range orders {
		if v, err := typed.Ints(l, e, little); tells(err) != (told{code, path}) || !same(v, none) {
			t.Errorf("Ints(%.300v, %d, %v) = %s, %v, want the error %d of %q", l, e, little, show(v), err, code, path)
		}
	}
}

func makesFloats(t *testing.T, l []float64, e api.Elem, little bool, want api.Value) {
	t.Helper()
	if v, err := typed.Floats(l, e, little); err != nil || !same(v, want) {
		t.Errorf("Floats(%.300v, %d, %v) = %s, %v, want %s", l, e, little, show(v), err, show(want))
	}
}

func refusesFloats(t *testing.T, l []float64, e api.Elem, code int, path string) {
	t.Helper()
	for _, little := range orders {
		if v, err := typed.Floats(l, e, little); tells(err) != (told{code, path}) || !same(v, none) {
			t.Errorf("Floats(%.300v, %d, %v) = %s, %v, want the error %d of %q", l, e, little, show(v), err, code, path)
		}
	}
}

func readsInts(t *testing.T, v api.Value, want ...int64) {
	t.Helper()
	if l, err := typed.ToInts(v); err != nil || !slices.Equal(l, want) {
		t.Errorf("ToInts(%s) = %.300v, %v, want %.300v", show(v), l, err, want)
	}
}

func noInts(t *testing.T, v api.Value, code int, path string) {
	t.Helper()
	if l, err := typed.ToInts(v); tells(err) != (told{code, path}) || len(l) > 0 {
		t.Errorf("ToInts(%s) = %.300v, %v, want the error %d of %q", show(v), l, err, code, path)
	}
}

// readsFloats: the floats are told by their patterns.
func readsFloats(t *testing.T, v api.Value, want ...float64) {
	t.Helper()
	if l, err := typed.ToFloats(v); err != nil || !slices.Equal(allBits(l), allBits(want)) {
		t.Errorf("ToFloats(%s) = %.300v, %v, want %.300v", show(v), l, err, want)
	}
}

func noFloats(t *testing.T, v api.Value, code int, path string) {
	t.Helper()
	if l, err := typed.ToFloats(v); tells(err) != (told{code, path}) || len(l) > 0 {
		t.Errorf("ToFloats(%s) = %.300v, %v, want the error %d of %q", show(v), l, err, code, path)
	}
}

func readsComplexes(t *testing.T, v api.Value, want ...complex128) {
	t.Helper()
	if l, err := typed.ToComplexes(v); err != nil || !slices.Equal(allParts(l), allParts(want)) {
		t.Errorf("ToComplexes(%s) = %.300v, %v, want %.300v", show(v), l, err, want)
	}
}

func noComplexes(t *testing.T, v api.Value, code int, path string) {
	t.Helper()
	if l, err := typed.ToComplexes(v); tells(err) != (told{code, path}) || len(l) > 0 {
		t.Errorf("ToComplexes(%s) = %.300v, %v, want the error %d of %q", show(v), l, err, code, path)
	}
}

func isPlain(t *testing.T, v, want api.Value) {
	t.Helper()
	if l, err := typed.Plain(v); err != nil || !same(l, want) {
		t.Errorf("Plain(%s) = %s, %v, want %s", show(v), show(l), err, show(want))
	}
}

func notPlain(t *testing.T, v api.Value, code int, path string) {
	t.Helper()
	if l, err := typed.Plain(v); tells(err) != (told{code, path}) || !same(l, none) {
		t.Errorf("Plain(%s) = %s, %v, want the error %d of %q", show(v), show(l), err, code, path)
	}
}

// P25.1: the chapter's examples, row by row.
func TestKnownInts(t *testing.T) {
	for _, little := range orders {
		makesInts(t, []int64{1, 2, 255}, api.Uint8, little, array(64, "0102ff"))
	}
	makesInts(t, []int64{1, -2}, api.Int16, false, array(73, "0001fffe"))
	makesInts(t, []int64{1, -2}, api.Int16, true, array(77, "0100feff"))
	makesInts(t, nil, api.Uint64, true, array(71, ""))
	makesInts(t, []int64{9223372036854775807}, api.Uint64, false, array(67, "7fffffffffffffff"))
	refusesInts(t, []int64{1, 256}, api.Uint8, rep, "/1")
	refusesInts(t, []int64{-1}, api.Uint64, rep, "/0")
	refusesInts(t, []int64{128}, api.Int8, rep, "/0")
	refusesInts(t, []int64{1}, api.Float16, arg, "")
	refusesInts(t, nil, 0, arg, "")
	refusesInts(t, nil, 12, arg, "")
}

// P25.2: the chapter's examples.
func TestKnownFloats(t *testing.T) {
	makesFloats(t, []float64{1.5, below}, api.Float16, false, array(80, "3e008000"))
	makesFloats(t, []float64{math.NaN(), math.Inf(1)}, api.Float32, true, array(85, "0000c07f0000807f"))
	refusesFloats(t, []float64{1, 0.1}, api.Float32, rep, "/1")
	refusesFloats(t, []float64{65536}, api.Float16, rep, "/0")
	refusesFloats(t, []float64{1}, api.Int8, arg, "")
}

// P25.3: the chapter's examples.
func TestKnownToInts(t *testing.T) {
	readsInts(t, array(65, "0001ffff"), 1, 65535)
	readsInts(t, array(68, "05"), 5)
	readsInts(t, array(84, "0049"), 10)
	readsInts(t, list(num(1), num(-1)), 1, -1)
	readsInts(t, list())
	noInts(t, array(67, "8000000000000000"), rep, "/0")
	noInts(t, array(80, "3e00"), rep, "/0")
	noInts(t, list(num(1), float(half3)), rep, "/1")
	noInts(t, list(null), rep, "/0")
	for _, v := range []api.Value{array(65, "00"), array(76, ""), array(83, ""), tag(64, list()), num(5)} {
		noInts(t, v, rep, "")
	}
}

// P25.4: the chapter's examples.
func TestKnownToFloats(t *testing.T) {
	readsFloats(t, array(82, "8000000000000000"), below)
	readsFloats(t, list(num(0), float(half3), float(noNumber)), 0, 1.5, math.NaN())
	noFloats(t, list(num(9007199254740993)), rep, "/0")
}

// P25.5: the chapter's examples.
func TestKnownComplexes(t *testing.T) {
	want := list(array(82, "3ff0000000000000 4008000000000000"), array(82, "4000000000000000 8000000000000000"))
	if v := typed.Complexes([]complex128{1 + 2i, complex(3, below)}); !same(v, want) {
		t.Errorf("Complexes = %s, want %s", show(v), show(want))
	}
	readsComplexes(t, list(list(num(1)), list(num(2))), 1+2i)
	noComplexes(t, list(list(num(1)), list(num(2), num(3))), rep, "/1")
	noComplexes(t, list(list(num(1)), list(text("a"))), rep, "/1/0")
	noComplexes(t, list(num(1)), rep, "")
	noComplexes(t, list(num(1), list(num(2))), rep, "/0")
}

// P25.6: the chapter's examples.
func TestKnownPlain(t *testing.T) {
	isPlain(t, array(70, "01000000ffffffff"), list(num(1), num(4294967295)))
	isPlain(t, array(80, "80003e007c01"), list(num(0), float(half3), float(noNumber)))
	notPlain(t, list(num(1)), rep, "")
}
