package value_test

import (
	"math"
	"slices"
	"strings"
	"testing"

	"crucible/api"
	"crucible/value"
)

// maps asks Map, and that there is nothing beside an error.
func maps(t *testing.T, kids []api.Value, want api.Value, e told) {
	t.Helper()
	got, err := value.Map(kids...)
	if !isTold(err, e) || !same(got, want) {
		t.Errorf("Map of %s = %s, %.200v; want %s, %.200v", show(list(kids...)), show(got), err, show(want), e)
	}
}

func refuses(t *testing.T, e told, kids ...api.Value) {
	t.Helper()
	maps(t, kids, api.Value{}, e)
}

// P14.4: the chapter's examples.
func TestMapKnown(t *testing.T) {
	maps(t, []api.Value{text("b"), num(1), text("a"), num(2)}, mapped(text("a"), num(2), text("b"), num(1)), told{})
	maps(t, nil, mapped(), told{})
	maps(t, []api.Value{}, mapped(), told{})
	refuses(t, told{err: api.ErrArg, at: 1}, text("a"))
	refuses(t, told{err: api.ErrArg, at: 3}, text("a"), wrong(), text("b"))
	refuses(t, told{err: api.ErrArg, path: "/1/0"}, null(), list(wrong()), null(), num(1))
	refuses(t, told{err: api.ErrInput, at: 2}, null(), num(1), num(0), num(2), null(), num(3))
	refuses(t, told{err: api.ErrLimit}, text("a"), deep(128))
	refuses(t, told{err: api.ErrLimit}, deep(128), text("a"))
}

// P14.4: an odd number of kids, whatever they are.
func TestMapOdd(t *testing.T) {
	for n := 1; n < 40; n += 2 {
		refuses(t, told{err: api.ErrArg, at: n}, slices.Repeat([]api.Value{null()}, n)...)
		refuses(t, told{err: api.ErrArg, at: n}, slices.Repeat([]api.Value{wrong()}, n)...)
		refuses(t, told{err: api.ErrArg, at: n}, slices.Repeat([]api.Value{deep(200)}, n)...)
	}
}

// P14.4: the first of kids that may not be, ahead of keys that come twice and of what is too deep.
func TestMapKids(t *testing.T) {
	for n := range 24 {
		l := slices.Repeat([]api.Value{null(), deep(128)}, 12)
		l[n] = tag(1, list(num(1), text("\xff")))
		refuses(t, told{err: api.ErrArg, path: "/" + number(n) + "/0/1"}, l...)
		l[n] = wrong()
		refuses(t, told{err: api.ErrArg, path: "/" + number(n)}, l...)
		l[n] = list(num(0), deep(128))
		refuses(t, told{err: api.ErrLimit, path: "/" + number(n) + "/1" + strings.Repeat("/0", 127)}, l...)
		for m := n + 1; m < 24; m++ {
			l[m] = api.Value{Kind: api.VText, Text: "\xff"}
		}
		refuses(t, told{err: api.ErrLimit, path: "/" + number(n) + "/1" + strings.Repeat("/0", 127)}, l...)
	}
}

func number(n int) string {
	if n < 10 {
		return string(rune('0' + n))
	}
	return number(n/10) + number(n%10)
}

// P14.4: the first pair whose key an earlier one has.
func TestMapTwice(t *testing.T) {
	for i := range 10 {
		for j := i + 1; j < 10; j++ {
			var l []api.Value
			for k := range int64(10) {
				l = append(l, num((k*7+3)%10), num(k))
			}
			l[2*j] = copied(l[2*i])
			refuses(t, told{err: api.ErrInput, at: j}, l...)
			// What is too deep is told behind that, and keys that come twice later on are not told.
			l[1] = deep(128)
			refuses(t, told{err: api.ErrInput, at: j}, l...)
			if j < 9 {
				l[18] = copied(l[2*j])
				refuses(t, told{err: api.ErrInput, at: j}, l...)
			}
		}
	}
	// The pair that is told is the first by its number, not by its key.
	refuses(t, told{err: api.ErrInput, at: 2}, num(9), null(), num(1), null(), num(9), null(), num(1), null())
	refuses(t, told{err: api.ErrInput, at: 2}, num(1), null(), num(9), null(), num(1), null(), num(9), null())
	refuses(t, told{err: api.ErrInput, at: 1}, num(1), null(), num(1), num(2), num(1), num(3))
	// Keys that are the same in all their parts.
	refuses(t, told{err: api.ErrInput, at: 1}, list(text("a"), mapped(null(), num(1))), null(), list(text("a"), mapped(null(), num(1))), num(1))
	refuses(t, told{err: api.ErrInput, at: 1}, float(noNum), null(), float(noNum), num(1))
}

// P14.4: keys that are near each other, but not the same.
func TestMapNear(t *testing.T) {
	keys := []api.Value{null(), boolean(0), boolean(1), num(0), num(1), num(-1), limbs(false, 0, 1), float(half3), float(plus), float(minus), float(noNum), text(""), text("1"), raw(""), raw("1"), list(), list(list()), list(num(1)), mapped(), mapped(list(), null()), tag(0, null()), tag(1, null()), tag(1, num(1)), simple(0), simple(1), ext(0, ""), ext(1, ""), ext(-1, ""), ext(0, "1")}
	r := rule{1431}
	for range 300 {
		var l []api.Value
		for i, k := range keys {
			l = append(l, k, num(int64(i)))
		}
		for i := range keys {
			j := r.below(i + 1)
			l[2*i], l[2*i+1], l[2*j], l[2*j+1] = l[2*j], l[2*j+1], l[2*i], l[2*i+1]
		}
		want, _ := mapOf(l)
		maps(t, l, want, told{})
		if t.Failed() {
			break
		}
	}
}

// P14.4: the limit is that of the map that would be made, whichever of kids is so deep.
func TestMapDeep(t *testing.T) {
	for at := range 6 {
		for _, shape := range []func(api.Value) api.Value{inList, inTag, asKey, asValue} {
			l := []api.Value{num(3), num(1), num(2), null(), num(1), num(0)}
			l[at] = within(127, list(), shape)
			refuses(t, told{err: api.ErrLimit}, l...)
			l[at] = within(128, null(), shape)
			refuses(t, told{err: api.ErrLimit}, l...)
			l[at] = within(126, list(), shape)
			want, _ := mapOf(l)
			maps(t, l, want, told{})
			if d := value.Depth(want); d != 128 {
				t.Errorf("of depth %d", d)
			}
		}
	}
}

// P14.4: any kids.
func TestMapAny(t *testing.T) {
	r := rule{1432}
	seen := map[error]int{}
	for range 20000 {
		l := r.values(r.below(3), 2*r.below(7))
		switch r.below(8) {
		case 0:
			l = append(l, r.leaf())
		case 1:
			for i := range l {
				l[i] = r.spoiled(l[i], r.below(2))
			}
		case 2:
			if len(l) > 0 {
				l[r.below(len(l))] = within(125+r.below(5), r.value(1), inTag)
			}
		}
		want, e := mapOf(l)
		seen[e.err]++
		maps(t, l, want, e)
		if t.Failed() {
			break
		}
	}
	for _, e := range []error{nil, api.ErrArg, api.ErrInput, api.ErrLimit} {
		if seen[e] < 200 {
			t.Errorf("%v came %d times", e, seen[e])
		}
	}
}

// finds asks Find, and that there is nothing beside a false.
func finds(t *testing.T, m, key, want api.Value, ok bool) {
	t.Helper()
	if got, fine := value.Find(m, key); fine != ok || !same(got, want) {
		t.Errorf("Find(%s, %s) = %s, %v; want %s, %v", show(m), show(key), show(got), fine, show(want), ok)
	}
}

func misses(t *testing.T, m, key api.Value) { t.Helper(); finds(t, m, key, api.Value{}, false) }

// P14.5: the chapter's examples.
func TestFindKnown(t *testing.T) {
	m := mapped(text("a"), num(2), text("b"), num(1))
	finds(t, m, text("b"), num(1), true)
	finds(t, m, text("a"), num(2), true)
	misses(t, m, text("c"))
	misses(t, m, wrong())
	misses(t, list(), num(0))
}

// P14.5: what is no map, or may not be; a key that may not be.
func TestFindWrong(t *testing.T) {
	for k := math.MinInt8; k <= math.MaxInt8; k++ {
		if k != int(api.VMap) {
			misses(t, api.Value{Kind: api.Kind(k)}, null())
			misses(t, api.Value{Kind: api.Kind(k), Kids: []api.Value{null(), num(1)}}, null())
		}
	}
	misses(t, list(null(), num(1)), null())
	misses(t, tag(0, null()), null())
	misses(t, mapped(null()), null())
	misses(t, mapped(null(), num(1), num(1)), null())
	misses(t, mapped(text("b"), null(), text("a"), null()), text("b"))
	misses(t, mapped(text("a"), null(), text("a"), null()), text("a"))
	misses(t, mapped(text("a"), num(1), text("b"), wrong()), text("a"))
	misses(t, mapped(text("a"), num(1), text("b"), list(limbs(true))), text("a"))
	misses(t, mapped(wrong(), num(1), null(), num(2)), null())
	misses(t, mapped(wrong(), num(1)), wrong())
	misses(t, mapped(num(5), num(1)), limbs(false, 5, 0))
	misses(t, mapped(num(0), num(1)), limbs(true))
	misses(t, mapped(float(noNum), num(1)), float(noNum+1))
	misses(t, mapped(num(1), num(1)), float(math.Float64bits(1)))
	bad := mapped(null(), num(1))
	bad.N = 1
	misses(t, bad, null())
	misses(t, mapped(null(), deep(128)), null())
	misses(t, mapped(null(), num(1), deep(128), num(2)), null())
	misses(t, mapped(null(), num(1)), deep(129))
	finds(t, mapped(null(), deep(127)), null(), deep(127), true)
	finds(t, mapped(null(), num(1), deep(127), num(2)), deep(127), num(2), true)
}

// P14.5: maps of every size up to some, every key that is there and those between.
func TestFindEach(t *testing.T) {
	misses(t, mapped(), null())
	for n := range int64(40) {
		m := mapped()
		for i := range n {
			m.Kids = append(m.Kids, num(2*i+1), list(num(i)))
		}
		for i := int64(-1); i <= 2*n+1; i++ {
			if i > 0 && i < 2*n && i%2 == 1 {
				finds(t, m, num(i), list(num(i/2)), true)
			} else {
				misses(t, m, num(i))
			}
			misses(t, m, list(num(i)))
			misses(t, m, float(half3))
		}
	}
}

// P14.5: any two structs.
func TestFindAny(t *testing.T) {
	r := rule{1441}
	seen := map[bool]int{}
	for range 20000 {
		m, _ := mapOf(r.values(r.below(2), 2*r.below(6)))
		if m.Kind == api.VNone {
			m = mapped(r.leaf(), r.leaf())
		}
		m = r.spoiled(m, r.below(6)/4)
		key := r.value(r.below(2))
		if n := len(m.Kids); n > 0 && r.below(2) == 0 {
			key = copied(m.Kids[r.below(n)])
		}
		want, ok := found(m, key)
		seen[ok]++
		finds(t, m, key, want, ok)
		if t.Failed() {
			break
		}
	}
	if seen[true] < 2000 || seen[false] < 2000 {
		t.Errorf("looked at %v", seen)
	}
}
