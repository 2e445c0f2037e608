package jsonwrite_test

import (
	"math/big"
	"slices"
	"strconv"
	"strings"
	"testing"

	"crucible/api"
	"crucible/jsonwrite"
	"crucible/value"
)

// foreigners are nodes of each kind that are not JSON's, wherever they stand.
func foreigners() []api.Value {
	return []api.Value{
		raw(""), raw("a"), raw("\xff\x00"), tag(0, null), tag(1, num(0)), tag(4, list(raw(""))), tag(1<<64-1, text("a")), tag(5, tag(6, num(1))), simple(0), simple(19), simple(23), simple(32), simple(255), ext(0, ""), ext(-1, "abc"), ext(127, "\xff"), ext(-128, ""),
		float(plus), float(minus), float(noNumber),
		whole("9007199254740993"), whole("-9007199254740993"), whole("18446744073709551615"), whole("-18446744073709551615"), whole("18446744073709551617"), whole("9223372036854775807"), whole("-9223372036854775807"), whole("12345678901234567890"), whole("1" + strings.Repeat("0", 23)),
		wholeOf(new(big.Int).Lsh(big.NewInt(1), 1024)), wholeOf(new(big.Int).Lsh(big.NewInt(-1), 1024)), wholeOf(new(big.Int).Lsh(big.NewInt(1), 100000)),
	}
}

// notTexts are values in JSON that may be no keys in it.
func notTexts() []api.Value {
	return []api.Value{null, no, yes, num(0), num(-1), whole("18446744073709551616"), float(half3), float(1), list(), list(text("a")), list(text("a"), num(1)), object(), object(text("a"), num(1))}
}

// P18.1 at what the document names.
func TestKnownRefused(t *testing.T) {
	fails(t, whole("9007199254740993"), rep, "")
	fails(t, list(num(1), float(plus)), rep, "/1")
	fails(t, list(list(float(noNumber)), raw("\x00")), rep, "/0/0")
	fails(t, object(num(1), raw("")), rep, "/0")
	fails(t, object(text("a"), tag(1, num(0))), rep, "/1")
	fails(t, none, arg, "")
	fails(t, list(none, raw("")), arg, "/0")
	fails(t, deep(129), limit, strings.Repeat("/0", 128))
	fails(t, text(strings.Repeat("a", 1048575)), limit, "")
	fails(t, whole("18446744073709551617"), rep, "")
}

// besideText: a key that is refused stands ahead of a text or behind it, by the order of values.
func besideText(t *testing.T, key api.Value) {
	t.Helper()
	path := "/2"
	if value.Compare(key, text("a")) < 0 {
		path = "/0"
	}
	fails(t, mapOf([]api.Value{text("a"), null, key, null}), rep, path)
}

// P18.1: each kind of node that is not JSON's, wherever it stands.
func TestForeign(t *testing.T) {
	for _, v := range foreigners() {
		fails(t, v, rep, "")
		fails(t, list(v), rep, "/0")
		fails(t, list(null, text("a"), v, num(1)), rep, "/2")
		fails(t, object(v, null), rep, "/0")
		besideText(t, v)
		fails(t, object(text("a"), v), rep, "/1")
		fails(t, object(text("a"), null, text("b"), v, text("c"), null), rep, "/3")
		fails(t, list(num(0), object(text("x"), list(list(), v))), rep, "/1/1/1")
		fails(t, nested(128-value.Depth(v), v), rep, strings.Repeat("/0", 128-value.Depth(v)))
		// As a key of a map that is itself no first node.
		fails(t, list(object(text("a"), object(v, num(0)))), rep, "/0/1/0")
	}
}

// P18.1: a key that is no text, though it is JSON's elsewhere; the key ahead of what is in it.
func TestKeysThatAreNoTexts(t *testing.T) {
	for _, v := range notTexts() {
		if _, err := jsonwrite.Write(v); err != nil {
			t.Fatalf("%s by itself: %v", show(v), err)
		}
		fails(t, object(v, null), rep, "/0")
		fails(t, list(null, object(v, null)), rep, "/1/0")
		fails(t, object(text("a"), object(v, null)), rep, "/1/0")
		besideText(t, v)
	}
	for _, v := range []api.Value{list(raw("")), list(list(raw(""))), object(num(1), num(2)), object(text("a"), raw("")), tag(1, raw("")), tag(1, object(num(1), num(1)))} {
		fails(t, object(v, null), rep, "/0")
		fails(t, object(text("a"), null, v, raw("")), rep, "/2")
		fails(t, list(object(text("a"), null, v, raw(""))), rep, "/0/2")
	}
	// Texts stand above numbers and below lists, so that keys of both sorts come ahead of texts and behind them.
	fails(t, object(num(1), null, text("a"), raw("")), rep, "/0")
	fails(t, object(text("a"), raw(""), list(), null), rep, "/1")
	fails(t, object(text("a"), null, list(), raw("")), rep, "/2")
	fails(t, object(null, raw(""), no, raw("")), rep, "/0")
	// A kid of a list with an even number is no key, nor are what a key's value holds.
	writes(t, list(num(1), num(2)), "[1,2]")
	writes(t, object(text("a"), list(num(1), num(2)), text("b"), num(3)), `{"a":[1,2],"b":3}`)
}

// P18.1: of several nodes the first is told: a node ahead of its Kids' nodes, these one behind the other.
func TestWhichIsTold(t *testing.T) {
	bad := raw("\x00")
	for _, c := range []struct {
		v    api.Value
		path string
	}{
		{list(bad, bad), "/0"}, {list(null, bad, bad), "/1"}, {list(list(null, bad), bad), "/0/1"}, {list(list(list(list(bad))), bad), "/0/0/0/0"}, {list(list(), list(), bad, list(bad)), "/2"}, {tag(1, bad), ""}, {list(tag(1, bad)), "/0"}, {list(null, tag(1, list(tag(2<<8, bad)))), "/1"},
		{object(text("a"), bad, text("b"), bad), "/1"}, {object(text("a"), null, text("b"), bad), "/3"}, {object(text("a"), list(null, bad), bad, null), "/1/1"}, {object(num(1), bad, text("a"), bad), "/0"}, {object(text("a"), object(text("b"), null, text("c"), bad), text("d"), bad), "/1/3"},
		{list(float(noNumber), float(plus), whole("9007199254740993")), "/0"}, {list(num(1), whole("9007199254740993"), float(plus)), "/1"}, {object(text("a"), whole("9007199254740993"), raw("k"), simple(0)), "/1"}, {list(object(text("a"), object(num(1), bad)), bad), "/0/1/0"},
		// By Kids, not by how they are written: 😀 is written ahead of ﬀ.
		{object(text("ﬀ"), bad, text("😀"), bad), "/1"}, {object(text("ﬀ"), list(num(0), bad), text("😀"), tag(1, bad)), "/1/1"}, {list(object(text("\ue000"), null, text("\uffff"), float(plus), text("\U00010000"), float(minus))), "/0/3"},
	} {
		fails(t, c.v, rep, c.path)
		fails(t, list(null, c.v, bad), rep, "/1"+c.path)
		fails(t, object(text(""), null, text("k"), c.v, text("l"), bad), rep, "/3"+c.path)
	}
	// Numbers of Kids of several digits.
	long := list(slices.Repeat([]api.Value{num(0)}, 12345)...)
	for _, at := range []int{0, 1, 9, 10, 11, 99, 100, 999, 1000, 10000, 12344} {
		v := value.Copy(long)
		v.Kids[at] = list(object(text("a"), bad))
		fails(t, v, rep, "/"+strconv.Itoa(at)+"/0/1")
		for i := at + 1; i < len(v.Kids); i += 7 {
			v.Kids[i] = bad
		}
		fails(t, v, rep, "/"+strconv.Itoa(at)+"/0/1")
	}
	r := rule{1806}
	for range 20000 {
		sameAsReference(t, r.value(4, true))
	}
}

// P18.1: what value.Check refuses comes ahead of all that, wherever it stands.
func TestCheckFirst(t *testing.T) {
	for _, bad := range []api.Value{
		none, {Kind: -1}, {Kind: 12}, {Kind: -128}, {Kind: 127}, {Kind: api.VNull, N: 1}, {Kind: api.VNull, Text: "a"}, {Kind: api.VNull, Kids: []api.Value{null}}, {Kind: api.VBool, N: 2}, {Kind: api.VBool, Bits: 1}, limbs(true), limbs(false, 0), limbs(false, 5, 0), {Kind: api.VInt, N: 1}, {Kind: api.VInt, Text: "1"},
		float(0), float(1 << 63), float(0x3ff0000000000000), float(noNumber + 1), float(noNumber | 1<<63), float(plus + 1), {Kind: api.VFloat, Bits: half3, N: 1}, text("\xff"), text("a\xed\xa0\x80"), text("\xc0\x80"), {Kind: api.VText, Text: "a", Ext: 1}, {Kind: api.VBytes, N: 1}, {Kind: api.VList, Text: "a"}, {Kind: api.VList, N: 1, Kids: []api.Value{null}},
		{Kind: api.VMap, Kids: []api.Value{text("a")}}, object(text("b"), null, text("a"), null), object(text("a"), null, text("a"), null), object(text("😀"), null, text("ﬀ"), null), tag(2, null), tag(3, null), {Kind: api.VTag, N: 1}, {Kind: api.VTag, N: 1, Kids: []api.Value{null, null}}, simple(20), simple(24), simple(256), {Kind: api.VExt, N: 1},
	} {
		fails(t, bad, arg, "")
		fails(t, list(bad), arg, "/0")
		fails(t, list(raw(""), float(plus), bad), arg, "/2")
		fails(t, list(object(num(1), raw("")), list(list(bad))), arg, "/1/0/0")
		fails(t, tag(1, bad), arg, "/0")
		fails(t, object(text("a"), raw(""), text("b"), bad), arg, "/3")
		fails(t, list(text(strings.Repeat("a", 1048575)), bad), arg, "/1")
		fails(t, list(deep(129), bad), arg, "/1")
		fails(t, list(bad, deep(129), raw("")), arg, "/0")
	}
	r := rule{1807}
	for range 20000 {
		sameAsReference(t, r.anything(3))
	}
}

// R2: with an error the text is empty, however much of it was there by then.
func TestEmptyBesideError(t *testing.T) {
	long := strings.Repeat("a", 1048000)
	for _, v := range []api.Value{none, list(num(1), none), raw(""), list(text("a"), text("b"), raw("")), object(text("a"), num(1), text("b"), raw("")), object(text("a"), num(1), text("b"), float(noNumber)), list(text(long), text(long)), deep(129), list(text(long), raw(""))} {
		if s, err := jsonwrite.Write(v); s != "" || err == nil {
			t.Errorf("Write(%s) = %q, %v", show(v), cut(s), err)
		}
	}
}
