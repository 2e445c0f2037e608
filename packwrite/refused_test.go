package packwrite_test

import (
	"math"
	"math/big"
	"slices"
	"strconv"
	"strings"
	"testing"

	"crucible/api"
	"crucible/packwrite"
	"crucible/value"
)

// foreigners are nodes that are not MessagePack's.
func foreigners() []api.Value {
	return []api.Value{
		tag(0, null), tag(1, list()), tag(4, num(1)), tag(55799, text("a")), tag(1<<64-1, simple(0)), simple(0), simple(19), simple(23), simple(32), simple(255),
		whole("18446744073709551617"), whole("18446744073709551618"), whole("36893488147419103231"), whole("-9223372036854775809"), whole("-9223372036854775810"), whole("-18446744073709551615"), whole("-18446744073709551617"), whole("123456789012345678901234567890"),
		wholeOf(new(big.Int).Lsh(big.NewInt(1), 1024)), wholeOf(new(big.Int).Lsh(big.NewInt(-1), 1024)), wholeOf(new(big.Int).Lsh(big.NewInt(1<<54-1), 970)), wholeOf(new(big.Int).Lsh(big.NewInt(1<<53+1), 11)), wholeOf(new(big.Int).Lsh(big.NewInt(-1<<53-1), 11)), wholeOf(new(big.Int).Lsh(big.NewInt(1), 100000)),
	}
}

// P24.1: nodes of every sort that are not MessagePack's, wherever they stand.
func TestForeign(t *testing.T) {
	for _, v := range foreigners() {
		fails(t, v, rep, "")
		fails(t, list(v), rep, "/0")
		fails(t, list(null, text("a"), v, num(1)), rep, "/2")
		fails(t, object(v, null), rep, "/0")
		fails(t, object(text("a"), v), rep, "/1")
		fails(t, object(text("a"), null, text("b"), v, text("c"), null), rep, "/3")
		fails(t, list(num(0), object(text("x"), list(list(), v))), rep, "/1/1/1")
		fails(t, object(list(list(v)), null), rep, "/0/0/0")
		if value.Depth(v) == 0 {
			fails(t, nested(128, v), rep, strings.Repeat("/0", 128))
		}
	}
	// A tag is told ahead of what is tagged.
	fails(t, tag(1, simple(0)), rep, "")
	fails(t, list(tag(1, list(tag(1, null)))), rep, "/0")
	// The nearest that are MessagePack's.
	for _, v := range []api.Value{
		whole("18446744073709551615"), whole("18446744073709551616"), whole("18446744073709555712"), whole("-9223372036854775808"), whole("-9223372036854777856"), whole("-18446744073709551616"), numberOf(math.MaxFloat64), numberOf(-math.MaxFloat64), numberOf(1 << 100), whole("9223372036854775809"), whole("-9223372036854775807"),
	} {
		answers(t, v, document(v), told{})
		answers(t, list(v, v), "\x92"+document(v)+document(v), told{})
	}
}

// P24.1: of several the first is told: a node ahead of its Kids' nodes, these one behind the other, whatever order they are written in.
func TestWhichIsTold(t *testing.T) {
	bad, other, great := simple(0), tag(1, simple(0)), whole("18446744073709551617")
	for _, c := range []struct {
		v    api.Value
		path string
	}{
		{list(bad, bad), "/0"}, {list(null, other, bad), "/1"}, {list(null, bad, other), "/1"}, {list(null, great, bad), "/1"}, {list(list(null, bad), great), "/0/1"}, {list(list(list(list(bad))), other), "/0/0/0/0"}, {list(list(), list(), great, list(bad)), "/2"}, {list(null, list(list(other))), "/1/0/0"},
		{object(text("a"), bad, text("b"), bad), "/1"}, {object(text("a"), null, text("b"), great), "/3"}, {object(text("a"), list(null, bad), bad, null), "/1/1"}, {object(list(bad), bad), "/0/0"}, {object(great, bad), "/0"}, {object(text("a"), object(text("b"), null, text("c"), bad), text("d"), great), "/1/3"},
		// By Kids, not by how they are written: 0 is written ahead of -1, b ahead of aa, a ahead of false.
		{object(num(-1), bad, num(0), great), "/1"}, {object(text("aa"), list(num(0), bad), text("b"), bad), "/1/1"}, {list(object(no, null, num(0), list(bad), text("a"), bad)), "/0/3/0"}, {object(no, bad, text("a"), bad), "/1"},
	} {
		fails(t, c.v, rep, c.path)
		fails(t, list(null, c.v, bad), rep, "/1"+c.path)
		fails(t, object(text(""), null, text("k"), c.v, text("l"), bad), rep, "/3"+c.path)
	}
	// Numbers of Kids of several digits.
	long := list(slices.Repeat([]api.Value{num(0)}, 12345)...)
	for _, at := range []int{0, 1, 9, 10, 11, 99, 100, 999, 1000, 10000, 12344} {
		v := value.Copy(long)
		v.Kids[at] = list(object(text("a"), bad))
		fails(t, v, rep, "/"+strconv.Itoa(at)+"/0/1")
		for i := at + 1; i < len(v.Kids); i += 7 {
			v.Kids[i] = other
		}
		fails(t, v, rep, "/"+strconv.Itoa(at)+"/0/1")
	}
	r := rule{2407}
	for range 20000 {
		sameAsReference(t, r.value(4, true))
	}
}

// P24.1: what value.Check refuses comes ahead of all that, wherever it stands.
func TestCheckFirst(t *testing.T) {
	bad := simple(0)
	for _, wrong := range []api.Value{
		none, {Kind: -1}, {Kind: 12}, {Kind: -128}, {Kind: 127}, {Kind: api.VNull, N: 1}, {Kind: api.VNull, Text: "a"}, {Kind: api.VNull, Kids: []api.Value{null}}, {Kind: api.VBool, N: 2}, {Kind: api.VBool, Bits: 1}, limbs(true), limbs(false, 0), limbs(false, 5, 0), {Kind: api.VInt, N: 1}, {Kind: api.VInt, Text: "1"},
		float(0), float(1 << 63), float(0x3ff0000000000000), float(noNumber + 1), float(noNumber | 1<<63), float(plus + 1), {Kind: api.VFloat, Bits: half3, N: 1}, text("\xff"), text("a\xed\xa0\x80"), text("\xc0\x80"), {Kind: api.VText, Text: "a", Ext: 1}, {Kind: api.VBytes, N: 1}, {Kind: api.VList, Text: "a"}, {Kind: api.VList, N: 1, Kids: []api.Value{null}},
		{Kind: api.VMap, Kids: []api.Value{text("a")}}, object(text("b"), null, text("a"), null), object(text("a"), null, text("a"), null), object(num(0), null, num(-1), null), object(text("b"), null, text("aa"), null), tag(2, raw("\x01")), tag(3, raw("\x01")), {Kind: api.VTag, N: 1}, {Kind: api.VTag, N: 1, Kids: []api.Value{null, null}}, simple(20), simple(22), simple(24), simple(31), simple(256), {Kind: api.VExt, N: 1},
	} {
		fails(t, wrong, arg, "")
		fails(t, list(wrong), arg, "/0")
		fails(t, list(bad, wrong), arg, "/1")
		fails(t, list(object(bad, bad), list(list(wrong))), arg, "/1/0/0")
		fails(t, tag(1, wrong), arg, "/0")
		fails(t, object(text("a"), bad, text("b"), wrong), arg, "/3")
		fails(t, list(raw(strings.Repeat("a", 1048572)), wrong), arg, "/1")
		fails(t, list(deep(129), wrong), arg, "/1")
		fails(t, list(wrong, deep(129), bad), arg, "/0")
	}
	r := rule{2408}
	for range 20000 {
		sameAsReference(t, r.anything(3))
	}
}

// R2: with an error the string is empty, however much of it was there by then.
func TestEmptyBesideError(t *testing.T) {
	long := raw(strings.Repeat("a", 1048000))
	for _, v := range []api.Value{none, list(num(1), none), simple(0), list(text("a"), simple(0)), object(text("a"), num(1), text("b"), simple(0)), list(long, long), object(num(1), long, num(2), long), object(long, long), deep(129), list(long, simple(0))} {
		if s, err := packwrite.Write(v); s != "" || err == nil {
			t.Errorf("Write(%s) = %s, %v", show(v), hexed(s), err)
		}
	}
}
