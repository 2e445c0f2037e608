package cborwrite_test

import (
	"slices"
	"strconv"
	"strings"
	"testing"

	"crucible/api"
	"crucible/cborwrite"
	"crucible/value"
)

// P21.1: an extension of any type, wherever it stands.
func TestExtensions(t *testing.T) {
	for _, v := range []api.Value{ext(0, ""), ext(1, ""), ext(-1, "abc"), ext(127, "\xff"), ext(-128, ""), ext(5, strings.Repeat("a", 2000000))} {
		fails(t, v, rep, "")
		fails(t, list(v), rep, "/0")
		fails(t, list(null, text("a"), v, num(1)), rep, "/2")
		fails(t, object(v, null), rep, "/0")
		fails(t, object(text("a"), v), rep, "/1")
		fails(t, object(text("a"), null, text("b"), v, text("c"), null), rep, "/3")
		fails(t, object(text("a"), null, v, null), rep, "/2")
		fails(t, tag(1, v), rep, "/0")
		fails(t, list(num(0), object(text("x"), list(list(), v))), rep, "/1/1/1")
		fails(t, object(list(tag(4, v)), null), rep, "/0/0/0")
		fails(t, nested(128, v), rep, strings.Repeat("/0", 128))
	}
}

// P21.1: of several the first is told: a node ahead of its Kids' nodes, these one behind the other, whatever order they are written in.
func TestWhichIsTold(t *testing.T) {
	bad := ext(0, "\x00")
	for _, c := range []struct {
		v    api.Value
		path string
	}{
		{list(bad, bad), "/0"}, {list(null, bad, bad), "/1"}, {list(list(null, bad), bad), "/0/1"}, {list(list(list(list(bad))), bad), "/0/0/0/0"}, {list(list(), list(), bad, list(bad)), "/2"}, {list(null, tag(1, list(tag(512, bad)))), "/1/0/0/0"},
		{object(text("a"), bad, text("b"), bad), "/1"}, {object(text("a"), null, text("b"), bad), "/3"}, {object(text("a"), list(null, bad), bad, null), "/1/1"}, {object(list(bad), bad), "/0/0"}, {object(text("a"), object(text("b"), null, text("c"), bad), text("d"), bad), "/1/3"},
		// By Kids, not by how they are written: 0 is written ahead of -1, b ahead of aa, 0 ahead of false.
		{object(num(-1), bad, num(0), bad), "/1"}, {object(text("aa"), list(num(0), bad), text("b"), bad), "/1/1"}, {list(object(no, null, num(0), list(bad), text("a"), bad)), "/0/3/0"},
	} {
		fails(t, c.v, rep, c.path)
		fails(t, list(null, c.v, bad), rep, "/1"+c.path)
		fails(t, object(text(""), null, text("k"), c.v, text("l"), bad), rep, "/3"+c.path)
		fails(t, tag(7, c.v), rep, "/0"+c.path)
	}
	// Numbers of Kids of several digits.
	long := list(slices.Repeat([]api.Value{num(0)}, 12345)...)
	for _, at := range []int{0, 1, 9, 10, 11, 99, 100, 999, 1000, 10000, 12344} {
		v := value.Copy(long)
		v.Kids[at] = list(object(text("a"), bad))
		fails(t, v, rep, "/"+strconv.Itoa(at)+"/0/1")
		for i := at + 1; i < len(v.Kids); i += 7 {
			v.Kids[i] = bad
		}
		fails(t, v, rep, "/"+strconv.Itoa(at)+"/0/1")
	}
	r := rule{2107}
	for range 20000 {
		sameAsReference(t, r.value(4, true))
	}
}

// P21.1: what value.Check refuses comes ahead of all that, wherever it stands.
func TestCheckFirst(t *testing.T) {
	bad := ext(0, "")
	for _, wrong := range []api.Value{
		none, {Kind: -1}, {Kind: 12}, {Kind: -128}, {Kind: 127}, {Kind: api.VNull, N: 1}, {Kind: api.VNull, Text: "a"}, {Kind: api.VNull, Kids: []api.Value{null}}, {Kind: api.VBool, N: 2}, {Kind: api.VBool, Bits: 1}, limbs(true), limbs(false, 0), limbs(false, 5, 0), {Kind: api.VInt, N: 1}, {Kind: api.VInt, Text: "1"},
		float(0), float(1 << 63), float(0x3ff0000000000000), float(noNumber + 1), float(noNumber | 1<<63), float(plus + 1), {Kind: api.VFloat, Bits: half3, N: 1}, text("\xff"), text("a\xed\xa0\x80"), text("\xc0\x80"), {Kind: api.VText, Text: "a", Ext: 1}, {Kind: api.VBytes, N: 1}, {Kind: api.VList, Text: "a"}, {Kind: api.VList, N: 1, Kids: []api.Value{null}},
		{Kind: api.VMap, Kids: []api.Value{text("a")}}, object(text("b"), null, text("a"), null), object(text("a"), null, text("a"), null), object(num(0), null, num(-1), null), object(text("b"), null, text("aa"), null), tag(2, raw("\x01")), tag(3, raw("\x01")), {Kind: api.VTag, N: 1}, {Kind: api.VTag, N: 1, Kids: []api.Value{null, null}}, simple(20), simple(22), simple(24), simple(31), simple(256), {Kind: api.VExt, N: 1},
	} {
		fails(t, wrong, arg, "")
		fails(t, list(wrong), arg, "/0")
		fails(t, list(bad, wrong), arg, "/1")
		fails(t, list(object(bad, bad), list(list(wrong))), arg, "/1/0/0")
		fails(t, tag(1, wrong), arg, "/0")
		fails(t, object(text("a"), bad, text("b"), wrong), arg, "/3")
		fails(t, list(raw(strings.Repeat("a", 1048572)), wrong), arg, "/1")
		fails(t, list(deep(129), wrong), arg, "/1")
		fails(t, list(wrong, deep(129), bad), arg, "/0")
	}
	r := rule{2108}
	for range 20000 {
		sameAsReference(t, r.anything(3))
	}
}

// R2: with an error the string is empty, however much of it was there by then.
func TestEmptyBesideError(t *testing.T) {
	long := raw(strings.Repeat("a", 1048000))
	for _, v := range []api.Value{none, list(num(1), none), ext(0, ""), list(text("a"), ext(0, "")), object(text("a"), num(1), text("b"), ext(0, "")), list(long, long), object(num(1), long, num(2), long), object(long, long), deep(129), list(long, ext(0, ""))} {
		if s, err := cborwrite.Write(v); s != "" || err == nil {
			t.Errorf("Write(%s) = %s, %v", show(v), hexed(s), err)
		}
	}
}
