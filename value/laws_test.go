package value_test

import (
	"slices"
	"testing"

	"crucible/api"
	"crucible/value"
)

// P14.6: Compare is an order of all structs.
func TestCompareIsOrder(t *testing.T) {
	r := rule{1461}
	var pool []api.Value
	for range 25 {
		a := r.anything(r.below(3))
		pool = append(pool, a, r.spoiled(a, 1), r.spoiled(a, 2), r.value(r.below(3)))
	}
	for i, a := range pool {
		if c := value.Compare(a, a); c != 0 {
			t.Errorf("Compare of %s and itself is %d", show(a), c)
		}
		for j, b := range pool {
			c := value.Compare(a, b)
			if c < -1 || c > 1 || value.Compare(b, a) != -c {
				t.Errorf("Compare of %d and %d, and the other way round: %d, %d", i, j, c, value.Compare(b, a))
			}
			if c > 0 {
				continue
			}
			for k, d := range pool {
				if value.Compare(b, d) <= 0 && value.Compare(a, d) > 0 {
					t.Errorf("%d is not above %d, that not above %d, but %d is above %d", i, j, k, i, k)
				}
			}
		}
		if t.Failed() {
			break
		}
	}
}

// P14.6: of values that may be Compare is 0 just if they are the same.
func TestCompareIsSame(t *testing.T) {
	r := rule{1462}
	seen := map[bool]int{}
	for range 30000 {
		a := r.value(r.below(4))
		b := r.spoiled(a, r.below(3))
		if value.Check(a) != nil || value.Check(b) != nil {
			continue
		}
		alike := value.Compare(a, b) == 0
		seen[alike]++
		if alike != same(a, b) {
			t.Errorf("Compare(%s, %s) says that they are alike: %v", show(a), show(b), alike)
			break
		}
	}
	if seen[true] < 1000 || seen[false] < 1000 {
		t.Errorf("looked at %v", seen)
	}
}

// P14.6: what Map answers may be, and each key's value is found in it, no other key's.
func TestMapIsFound(t *testing.T) {
	r := rule{1463}
	made := 0
	for range 10000 {
		kids := r.values(r.below(3), 2*r.below(8))
		m, err := value.Map(kids...)
		if err != nil {
			continue
		}
		made++
		if err := value.Check(m); err != nil || m.Kind != api.VMap || len(m.Kids) != len(kids) {
			t.Errorf("Map answers %s: %v", show(m), err)
		}
		for i := 0; i < len(kids); i += 2 {
			finds(t, m, kids[i], kids[i+1], true)
		}
		key := r.value(1)
		_, ok := value.Find(m, key)
		if ok != slices.ContainsFunc(pairKeys(kids), func(k api.Value) bool { return same(k, key) }) {
			t.Errorf("Find(%s, %s): %v", show(m), show(key), ok)
		}
		if t.Failed() {
			break
		}
	}
	if made < 2000 {
		t.Errorf("only %d maps", made)
	}
}

func pairKeys(kids []api.Value) []api.Value {
	var out []api.Value
	for i := 0; i < len(kids); i += 2 {
		out = append(out, kids[i])
	}
	return out
}

// P14.6: Map of the Kids of a map that may be, the pairs in any order, is that map.
func TestMapOfKids(t *testing.T) {
	r := rule{1464}
	for range 10000 {
		m := r.value(3)
		if m.Kind != api.VMap {
			continue
		}
		kids := slices.Clone(m.Kids)
		for i := len(kids)/2 - 1; i > 0; i-- {
			j := r.below(i + 1)
			kids[2*i], kids[2*i+1], kids[2*j], kids[2*j+1] = kids[2*j], kids[2*j+1], kids[2*i], kids[2*i+1]
		}
		maps(t, kids, m, told{})
		if t.Failed() {
			break
		}
	}
}

// P14.6: each node of a value that may be may be, and its Depth is the greatest number of containers around a node, that one counted.
func TestNodesMayBe(t *testing.T) {
	r := rule{1465}
	for n := range 5000 {
		v := r.value(n % 5)
		if n%50 == 0 {
			v = within(125, v, asValue)
		}
		if value.Check(v) != nil {
			continue
		}
		deepest := 0
		for _, p := range places(v) {
			mayBe(t, p.node)
			if isContainer(p.node) {
				deepest = max(deepest, p.around+1)
			}
		}
		if d := value.Depth(v); d != deepest {
			t.Errorf("Depth(%s) = %d; want %d", show(v), d, deepest)
		}
		if t.Failed() {
			break
		}
	}
}

// P14.6: a copy is the same to every call.
func TestCopyIsSame(t *testing.T) {
	r := rule{1466}
	for range 5000 {
		v := r.spoiled(r.value(r.below(4)), r.below(3))
		c := value.Copy(v)
		if !same(c, v) || value.Compare(c, v) != 0 || value.Depth(c) != value.Depth(v) || value.Nodes(c) != value.Nodes(v) {
			t.Errorf("Copy(%s) = %s", show(v), show(c))
		}
		checks(t, c, checked(v))
		if t.Failed() {
			break
		}
	}
}
