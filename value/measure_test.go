package value_test

import (
	"math"
	"testing"

	"crucible/api"
	"crucible/value"
)

func measures(t *testing.T, v api.Value, depth, nodes int) {
	t.Helper()
	if d := value.Depth(v); d != depth {
		t.Errorf("Depth(%s) = %d; want %d", show(v), d, depth)
	}
	if n := value.Nodes(v); n != nodes {
		t.Errorf("Nodes(%s) = %d; want %d", show(v), n, nodes)
	}
	if c := value.Copy(v); !same(c, v) {
		t.Errorf("Copy(%s) = %s", show(v), show(c))
	}
}

// P14.3: the chapter's examples.
func TestMeasureKnown(t *testing.T) {
	measures(t, num(7), 0, 1)
	measures(t, list(), 1, 1)
	measures(t, list(list(), tag(1, num(2))), 2, 4)
	measures(t, list(num(1), mapped(text("a"), num(2))), 2, 5)
}

// P14.3: every kind, with and without Kids: what is no container has the depth 0, and its Kids are nodes all the same.
func TestMeasureKinds(t *testing.T) {
	for k := math.MinInt8; k <= math.MaxInt8; k++ {
		kind := api.Kind(k)
		one := 0
		if kind == api.VList || kind == api.VMap || kind == api.VTag {
			one = 1
		}
		of := func(l ...api.Value) api.Value { return api.Value{Kind: kind, Kids: l} }
		measures(t, of(), one, 1)
		measures(t, of(null()), one, 2)
		measures(t, of(null(), wrong(), num(1)), one, 4)
		measures(t, of(list()), 2*one, 2)
		measures(t, of(list(list(), null())), 3*one, 4)
		measures(t, list(of(list(list()))), 1+3*one, 4)
		measures(t, list(list(), of(list(list())), null()), max(2, 1+3*one), 6)
	}
}

// P14.3: the deepest of the Kids counts, wherever it stands.
func TestMeasureDeepest(t *testing.T) {
	for at := range 4 {
		l := []api.Value{list(), null(), deep(3), tag(1, null())}
		l[at] = deep(9)
		for _, v := range []api.Value{list(l...), mapped(l...), tag(7, l...)} {
			if d := value.Depth(v); d != 10 {
				t.Errorf("Depth(%s) = %d", show(v), d)
			}
		}
	}
	for _, n := range []int{1, 127, 128, 129, 1000} {
		measures(t, deep(n), n, n)
	}
}

// P14.3: any struct.
func TestMeasureAny(t *testing.T) {
	r := rule{1421}
	for range 20000 {
		v := r.anything(r.below(5))
		measures(t, v, depthOf(v), len(places(v)))
		v = r.spoiled(r.value(r.below(5)), r.below(3))
		measures(t, v, depthOf(v), len(places(v)))
		if t.Failed() {
			break
		}
	}
}

// P14.3: Copy keeps each field as it is, whatever the kind.
func TestCopyFields(t *testing.T) {
	for k := math.MinInt8; k <= math.MaxInt8; k++ {
		v := api.Value{Kind: api.Kind(k), N: 3, Int: api.Int{Neg: true, Mag: api.Nat{0, 7, 0, 0}}, Bits: 1 << 63, Ext: -7, Text: "a\xff", Kids: []api.Value{wrong(), limbs(true, 0)}}
		c := value.Copy(list(v, v))
		if !same(c, list(v, v)) {
			t.Errorf("Copy(%s) = %s", show(v), show(c))
		}
	}
}
