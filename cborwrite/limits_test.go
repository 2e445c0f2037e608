package cborwrite_test

import (
	"errors"
	"math/big"
	"slices"
	"strings"
	"testing"

	"crucible/api"
	"crucible/cborread"
	"crucible/cborwrite"
	"crucible/value"
)

// P21.1, P21.2, P21.4: MaxDepth containers in one another, and one more.
func TestDeep(t *testing.T) {
	if api.MaxDepth != 128 {
		t.Fatal("another limit")
	}
	lists, path := strings.Repeat("\x81", 127), strings.Repeat("/0", 128)
	writes(t, deep(127), lists[1:]+"\x80")
	writes(t, deep(128), lists+"\x80")
	writes(t, nested(128, text("[")), lists+"\x81\x61[")
	writes(t, nested(127, object()), lists+"\xa0")
	writes(t, nested(127, tag(1, null)), lists+"\xc1\xf6")
	// Great numbers are no tags.
	great := of("c2 49 01 00 00 00 00 00 00 00 00")
	writes(t, nested(128, whole("18446744073709551616")), lists+"\x81"+great)
	canon(t, lists+"\x81\xc2\x41\x05", false)
	fails(t, deep(129), limit, path)
	fails(t, nested(128, object()), limit, path)
	fails(t, nested(128, tag(1, null)), limit, path)
	fails(t, list(num(0), deep(200)), limit, "/1"+path[2:])
	for _, c := range []struct {
		ahead, step string
		within      func(v api.Value) api.Value
	}{
		{"\xa1\x00", "/1", func(v api.Value) api.Value { return object(num(0), v) }},
		{"\xc6", "/0", func(v api.Value) api.Value { return tag(6, v) }},
	} {
		v := list()
		for range 127 {
			v = c.within(v)
		}
		s := strings.Repeat(c.ahead, 127) + "\x80"
		writes(t, v, s)
		fails(t, list(v), limit, "/0"+strings.Repeat(c.step, 127))
		canon(t, "\x81"+s, false)
	}
	keys, s := list(), "\x80"
	for range 127 {
		keys, s = object(keys, null), "\xa1"+s+"\xf6"
	}
	writes(t, keys, s)
	fails(t, object(keys, null), limit, path)
	canon(t, "\xa1"+s+"\xf6", false)
	// What stands too deep comes ahead of extensions, as value.Check tells it.
	fails(t, list(ext(0, ""), deep(128)), limit, "/1"+path[2:])
	fails(t, list(deep(128), ext(0, "")), limit, path)
	fails(t, nested(128, ext(0, "")), rep, path)

	canon(t, "\x81"+lists+"\x80", false)
	canon(t, "\x82\x00"+lists+"\x80", false)
	canon(t, "\x82"+lists[1:]+"\x80"+lists[1:]+"\xa0", true)
	canon(t, lists, false)
	canon(t, strings.Repeat("\x81", 1000)+"\x00", false)
	canon(t, strings.Repeat("\xc1", 129)+"\x00", false)
	r := rule{2109}
	for range 30 {
		v := r.value(3, false)
		d := value.Depth(v)
		for range 128 - d {
			v = pick(&r, list(v), object(text("a"), v), list(num(0), v), object(v, null), tag(9, v))
		}
		s := document(v)
		writes(t, v, s)
		_, e := wants(list(v))
		fails(t, list(v), e.code, e.path)
		canon(t, "\x81"+s, d == 0 && value.Depth(list(v)) <= 128)
	}
}

// atLimit: values whose documents have just MaxBytes bytes, and for each one whose document has one more.
func atLimit() [][2]api.Value {
	letters := func(n int) api.Value { return text(strings.Repeat("a", n)) }
	bytes := func(n int) api.Value { return raw(strings.Repeat("\xff", n)) }
	nulls := func(n int) api.Value { return list(slices.Repeat([]api.Value{null}, n)...) }
	great := func(n uint, sign int64) api.Value {
		return wholeOf(new(big.Int).Lsh(big.NewInt(sign), 8*n-1))
	}
	keys := func(more ...api.Value) api.Value {
		var kids []api.Value
		for i := range 20000 {
			kids = append(kids, num(int64(-100000-i)), list(null))
		}
		return mapOf(append(kids, more...))
	}
	return [][2]api.Value{
		{bytes(1048571), bytes(1048572)},
		{letters(1048571), letters(1048572)},
		{text(strings.Repeat("é", 524285) + "a"), text(strings.Repeat("é", 524286))},
		{list(letters(1048570)), list(letters(1048571))},
		{list(bytes(500000), letters(548565)), list(letters(548565), bytes(500001))},
		{tag(1, bytes(1048570)), tag(24, bytes(1048570))},
		{object(letters(1048569), num(0)), object(letters(1048569), num(24))},
		{object(text("k"), letters(1048568)), object(text("kk"), letters(1048568))},
		{object(letters(500000), bytes(548565)), object(letters(548565), bytes(500001))},
		{object(num(-1), letters(500000), num(0), letters(548563)), object(num(-1), letters(548563), num(0), letters(500001))},
		{nulls(1048571), nulls(1048572)},
		{list(letters(1048567), float(half3)), list(letters(1048566), float(0x3ff0000020000000))},
		{list(letters(1048567), num(256)), list(letters(1048566), num(65536))},
		{great(1048570, 1), great(1048571, 1)},
		{great(1048570, -1), great(1048571, -1)},
		{list(great(1048569, 1)), list(great(1048569, 1), null)},
		{keys(text("x"), letters(908566)), keys(text("xx"), letters(908566))},
		{nested(128, letters(1048576-133)), nested(128, letters(1048576-132))},
	}
}

// P21.1, P21.2, P21.4: a document of MaxBytes bytes, and of one more.
func TestLongest(t *testing.T) {
	if api.MaxBytes != 1048576 {
		t.Fatal("another limit")
	}
	for i, c := range atLimit() {
		just, over := document(c[0]), document(c[1])
		if len(just) != 1048576 || len(over) != 1048577 {
			t.Errorf("row %d: %d and %d bytes", i, len(just), len(over))
			continue
		}
		answers(t, c[0], just, told{})
		fails(t, c[1], limit, "")
		if v, err := cborread.Read(just); err != nil || !same(v, c[0]) {
			t.Errorf("row %d: read as %s, %v", i, show(v), err)
		}
		canon(t, just, true)
		canon(t, over, false)
		canon(t, just+"\x00", false)
		canon(t, just[:len(just)-1], false)
	}
}

// P21.1: of a document that is too long no place is told.
func TestNoPlaceOfLimit(t *testing.T) {
	for _, v := range []api.Value{raw(strings.Repeat("a", 1048572)), list(num(1), object(num(1), raw(strings.Repeat("a", 1048572))))} {
		_, err := cborwrite.Write(v)
		var fault *api.Fault
		if !errors.Is(err, api.ErrLimit) || errors.As(err, &fault) && (fault.At != 0 || fault.Path != "") {
			t.Errorf("%v", err)
		}
	}
}

// P21.1: much more than MaxBytes bytes, and in time.
func TestMuchTooLong(t *testing.T) {
	long := raw(strings.Repeat("a", 1048571))
	many := []api.Value{}
	for i := range 400 {
		many = append(many, num(int64(i)), list(long, long))
	}
	// Maps in one another, in which some is over before all pairs are met.
	inner := object(num(-1), long, num(0), long, num(1), null)
	within := object(num(-2), object(list(), null, inner, inner), num(2), object(text("a"), inner, text("b"), inner))
	wide := object(slices.Collect(func(yield func(api.Value) bool) {
		for i := range int64(500000) {
			if !yield(num(i)) || !yield(null) {
				return
			}
		}
	})...)
	for _, v := range []api.Value{
		list(long), list(long, long, long), object(text("a"), long), object(long, long), tag(0, long), raw(strings.Repeat("a", 8<<20)), list(slices.Repeat([]api.Value{num(0)}, 2000000)...), list(slices.Repeat([]api.Value{list(long)}, 300)...), nested(100, list(long, long)), object(many...), inner, within, list(within, within), object(within, within), object(list(within), tag(1, within)), wide, nested(120, wide), limbs(false, slices.Repeat([]uint32{1}, 1000000)...), limbs(true, slices.Repeat([]uint32{1}, 1000000)...), list(slices.Repeat([]api.Value{whole("-18446744073709551617")}, 200000)...),
	} {
		fails(t, v, limit, "")
	}
}

// P21.1: an extension, and what value.Check refuses, come ahead of the length, also where they stand behind what is too long.
func TestTooLongAndWrong(t *testing.T) {
	long, bad := raw(strings.Repeat("a", 1048572)), ext(0, "")
	fails(t, list(long, bad), rep, "/1")
	fails(t, list(long, long, list(num(1), bad)), rep, "/2/1")
	fails(t, list(bad, long), rep, "/0")
	fails(t, object(text("a"), long, text("b"), bad), rep, "/3")
	fails(t, object(long, bad), rep, "/1")
	fails(t, list(long, none), arg, "/1")
	fails(t, list(long, bad, none), arg, "/2")
	fails(t, list(none, long), arg, "/0")
	fails(t, text(strings.Repeat("a", 2000000)+"\xff"), arg, "")
	fails(t, list(long, deep(128)), limit, "/1"+strings.Repeat("/0", 127))
	fails(t, list(slices.Concat(slices.Repeat([]api.Value{num(0)}, 1200000), []api.Value{bad})...), rep, "/1200000")
	fails(t, list(slices.Concat(slices.Repeat([]api.Value{num(0)}, 1200000), []api.Value{none})...), arg, "/1200000")
	for _, c := range atLimit() {
		for _, v := range c {
			if value.Depth(v) < 128 {
				fails(t, list(v, bad), rep, "/1")
				fails(t, list(v), limit, "")
			}
		}
	}
}

// P21.4: what is too long is not canonical, whatever it is.
func TestLongCanon(t *testing.T) {
	for _, s := range []string{
		counted(2, strings.Repeat("a", 1048572)), counted(3, strings.Repeat("a", 5000000)), shortest(4, 1048572) + strings.Repeat("\x00", 1048572), strings.Repeat("\x81", 1048577), strings.Repeat("\x81", 1048576), strings.Repeat("\x00", 1048577), strings.Repeat("\x00", 1048576), "\xc2" + counted(2, "\x01"+strings.Repeat("\x00", 1048570)), "\xc2" + counted(2, strings.Repeat("\x00", 1048570)), "\x9f" + strings.Repeat("\x00", 1048574) + "\xff", shortest(4, 1048571) + strings.Repeat("\x00", 1048570), shortest(4, 1048570) + strings.Repeat("\x00", 1048571), "\x5b\x00\x00\x00\x00\x00\x0f\xff\xf7" + strings.Repeat("a", 1048567),
	} {
		canon(t, s, false)
	}
	canon(t, shortest(4, 1048571)+strings.Repeat("\x00", 1048571), true)
	canon(t, "\xc2"+counted(2, "\x01"+strings.Repeat("\x00", 1048569)), true)
	canon(t, "\xc3"+counted(2, strings.Repeat("\xff", 1048570)), true)
}
