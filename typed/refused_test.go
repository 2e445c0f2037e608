package typed_test

import (
	"strings"
	"testing"

	"crucible/api"
	"crucible/typed"
)

// refused holds all four calls that take a value to one error.
func refused(t *testing.T, v api.Value, code int, path string) {
	t.Helper()
	noInts(t, v, code, path)
	noFloats(t, v, code, path)
	noComplexes(t, v, code, path)
	notPlain(t, v, code, path)
}

// P25.3, P25.4, P25.6: which tags are a typed array's, and how long its bytes may be.
func TestTags(t *testing.T) {
	sizes := map[uint64]int{68: 1}
	for _, k := range kinds {
		sizes[k.tag], sizes[k.little] = k.size, k.size
	}
	var tags []uint64
	for n := range uint64(1000) {
		if n != 2 && n != 3 {
			tags = append(tags, n)
		}
	}
	for _, n := range append(tags, 1<<16+64, 1<<32+64, 1<<63+64, 1<<64-1, 1<<64-64, 1<<64-63) {
		for length := range 26 {
			v := tag(n, raw(strings.Repeat("\x00", length)))
			size, ok := sizes[n]
			if !ok || length%size != 0 {
				refused(t, v, rep, "")
				continue
			}
			readsInts(t, v, make([]int64, length/size)...)
			readsFloats(t, v, make([]float64, length/size)...)
			noComplexes(t, v, rep, "")
			if l, err := typed.Plain(v); err != nil || len(l.Kids) != length/size {
				t.Errorf("Plain(%s) = %s, %v", show(v), show(l), err)
			}
		}
	}
	if len(sizes) != 21 {
		t.Errorf("%d tags", len(sizes))
	}
}

// P25.3, P25.4, P25.6: a tag over anything but bytes, and what is no tag at all.
func TestNoRows(t *testing.T) {
	for _, v := range []api.Value{null, no, yes, num(0), num(5), whole("123456789012345678901"), float(half3), float(noNumber), text(""), text("ab"), raw(""), raw("\x01\x02"), object(), object(num(0), num(1)), simple(0), {Kind: api.VExt, Ext: 64, Text: "ab"}, tag(0, num(1)), tag(1000, array(64, "01"))} {
		refused(t, v, rep, "")
		for _, k := range kinds {
			if v.Kind != api.VBytes {
				refused(t, tag(k.tag, v), rep, "")
				refused(t, tag(k.little, v), rep, "")
			}
		}
	}
	for _, k := range kinds {
		refused(t, tag(k.tag, list()), rep, "")
		refused(t, tag(k.tag, list(num(1), num(2))), rep, "")
		refused(t, tag(k.tag, tag(k.tag, raw(""))), rep, "")
		refused(t, tag(k.little, text(strings.Repeat("a", k.size))), rep, "")
	}
	for _, l := range []api.Value{list(), list(num(1)), list(num(1), num(2)), list(array(64, "01"), array(64, "01"))} {
		notPlain(t, l, rep, "")
	}
}

// R6: what value.Check answers counts ahead of all else.
func TestMayNotBe(t *testing.T) {
	for _, c := range []struct {
		v    api.Value
		code int
		path string
	}{
		{none, arg, ""}, {list(num(1), none), arg, "/1"}, {list(null, none), arg, "/1"}, {list(limbs(true)), arg, "/0"}, {list(limbs(false, 5, 0)), arg, "/0"}, {list(float(0x3ff0000000000000)), arg, "/0"}, {list(float(1 << 63)), arg, "/0"}, {list(float(noNumber + 1)), arg, "/0"},
		{api.Value{Kind: api.VTag, N: 64}, arg, ""}, {api.Value{Kind: api.VTag, N: 64, Kids: []api.Value{raw("\x01"), raw("\x02")}}, arg, ""}, {tag(64, api.Value{Kind: api.VBytes, N: 1}), arg, "/0"}, {tag(64, none), arg, "/0"}, {tag(2, raw("\x01")), arg, ""}, {api.Value{Kind: api.VTag, N: 64, Text: "a", Kids: []api.Value{raw("\x01")}}, arg, ""},
		{list(list(num(1)), list(none)), arg, "/1/0"}, {list(num(1), list(none)), arg, "/1/0"}, {list(null, null, none), arg, "/2"}, {list(text("\xff")), arg, "/0"}, {api.Value{Kind: api.VList, N: 1}, arg, ""}, {object(num(2), num(1), num(1), num(1)), arg, ""},
		{deep(129), limit, strings.Repeat("/0", 128)}, {list(null, deep(128)), limit, "/1" + strings.Repeat("/0", 127)}, {list(deep(128), none), arg, "/1"}, {list(list(num(1)), deep(128)), limit, "/1" + strings.Repeat("/0", 127)},
		{nested(128, array(64, "01")), limit, strings.Repeat("/0", 128)},
	} {
		refused(t, c.v, c.code, c.path)
	}
	// As deep as a value may be.
	noInts(t, deep(128), rep, "/0")
	noFloats(t, nested(127, array(64, "01")), rep, "/0")
	noComplexes(t, list(list(num(1)), list(deep(126))), rep, "/1/0")
	notPlain(t, tag(64, deep(127)), rep, "")
}
