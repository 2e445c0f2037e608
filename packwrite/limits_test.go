package packwrite_test

import (
	"errors"
	"slices"
	"strings"
	"testing"

	"crucible/api"
	"crucible/packread"
	"crucible/packwrite"
	"crucible/value"
)

// P24.1, P24.2, P24.4: MaxDepth containers in one another, and one more.
func TestDeep(t *testing.T) {
	if api.MaxDepth != 128 {
		t.Fatal("another limit")
	}
	lists, path := strings.Repeat("\x91", 127), strings.Repeat("/0", 128)
	writes(t, deep(127), lists[1:]+"\x90")
	writes(t, deep(128), lists+"\x90")
	writes(t, nested(128, text("[")), lists+"\x91\xa1[")
	writes(t, nested(127, object()), lists+"\x80")
	writes(t, nested(127, object(null, no)), lists+"\x81\xc0\xc2")
	fails(t, deep(129), limit, path)
	fails(t, nested(128, object()), limit, path)
	fails(t, nested(128, tag(1, null)), limit, path)
	fails(t, list(num(0), deep(200)), limit, "/1"+path[2:])
	within := list()
	for range 127 {
		within = object(num(0), within)
	}
	s := strings.Repeat("\x81\x00", 127) + "\x90"
	writes(t, within, s)
	fails(t, list(within), limit, "/0"+strings.Repeat("/1", 127))
	canon(t, "\x91"+s, false)
	keys, s := list(), "\x90"
	for range 127 {
		keys, s = object(keys, null), "\x81"+s+"\xc0"
	}
	writes(t, keys, s)
	fails(t, object(keys, null), limit, path)
	canon(t, "\x81"+s+"\xc0", false)
	// What stands too deep comes ahead of what is not MessagePack's, as value.Check tells it.
	fails(t, list(simple(0), deep(128)), limit, "/1"+path[2:])
	fails(t, list(deep(128), simple(0)), limit, path)
	fails(t, nested(128, simple(0)), rep, path)
	fails(t, nested(127, tag(1, null)), rep, path[2:])

	canon(t, "\x91"+lists+"\x90", false)
	canon(t, "\x92\x00"+lists+"\x90", false)
	canon(t, "\x92"+lists[1:]+"\x90"+lists[1:]+"\x91\x00", true)
	canon(t, lists, false)
	canon(t, strings.Repeat("\x91", 1000)+"\x00", false)
	canon(t, strings.Repeat("\x81", 129)+"\x00", false)
	r := rule{2412}
	for range 30 {
		v := r.value(3, false)
		d := value.Depth(v)
		for range 128 - d {
			v = pick(&r, list(v), object(text("a"), v), list(num(0), v), object(v, null))
		}
		s := document(v)
		writes(t, v, s)
		_, e := wants(list(v))
		fails(t, list(v), e.code, e.path)
		canon(t, "\x91"+s, false)
	}
}

// atLimit: values whose documents have just MaxBytes bytes, and for each one whose document has one more.
func atLimit() [][2]api.Value {
	letters := func(n int) api.Value { return text(strings.Repeat("a", n)) }
	bytes := func(n int) api.Value { return raw(strings.Repeat("\xff", n)) }
	nulls := func(n int) api.Value { return list(slices.Repeat([]api.Value{null}, n)...) }
	keys := func(more ...api.Value) api.Value {
		var kids []api.Value
		for i := range 20000 {
			kids = append(kids, num(int64(-100000-i)), list(null))
		}
		return mapOf(append(kids, more...))
	}
	return [][2]api.Value{
		{bytes(1048571), bytes(1048572)},
		{letters(1048571), letters(1048572)},
		{ext(5, strings.Repeat("x", 1048570)), ext(5, strings.Repeat("x", 1048571))},
		{text(strings.Repeat("é", 524285) + "a"), text(strings.Repeat("é", 524286))},
		{list(letters(1048570)), list(letters(1048571))},
		{list(bytes(500000), letters(548565)), list(letters(548565), bytes(500001))},
		{object(letters(1048569), num(0)), object(letters(1048569), num(128))},
		{object(text("k"), letters(1048568)), object(text("kk"), letters(1048568))},
		{object(letters(500000), bytes(548565)), object(letters(548565), bytes(500001))},
		{object(num(-1), letters(500000), num(0), letters(548563)), object(num(-1), letters(548563), num(0), letters(500001))},
		{nulls(1048571), nulls(1048572)},
		{list(letters(1048565), float(half3)), list(letters(1048562), float(0x3fb999999999999a))},
		{list(letters(1048567), num(256)), list(letters(1048566), num(65536))},
		{list(letters(1048567), ext(0, "a")), list(letters(1048567), ext(0, "aa"))},
		{keys(text("x"), letters(908566)), keys(text("xx"), letters(908566))},
		{nested(128, letters(1048576-133)), nested(128, letters(1048576-132))},
	}
}

// P24.1, P24.2, P24.4: a document of MaxBytes bytes, and of one more.
func TestLongest(t *testing.T) {
	if api.MaxBytes != 1048576 {
		t.Fatal("another limit")
	}
	for i, c := range atLimit() {
		just, over := document(c[0]), document(c[1])
		if len(just) != 1048576 || len(over) != 1048577 {
			t.Errorf("row %d: %d and %d bytes", i, len(just), len(over))
			continue
		}
		answers(t, c[0], just, told{})
		fails(t, c[1], limit, "")
		if v, err := packread.Read(just); err != nil || !same(v, c[0]) {
			t.Errorf("row %d: read as %s, %v", i, show(v), err)
		}
		canon(t, just, true)
		canon(t, over, false)
		canon(t, just+"\x00", false)
		canon(t, just[:len(just)-1], false)
	}
}

// P24.1: of a document that is too long no place is told.
func TestNoPlaceOfLimit(t *testing.T) {
	for _, v := range []api.Value{raw(strings.Repeat("a", 1048572)), list(num(1), object(num(1), raw(strings.Repeat("a", 1048572))))} {
		_, err := packwrite.Write(v)
		var fault *api.Fault
		if !errors.Is(err, api.ErrLimit) || errors.As(err, &fault) && (fault.At != 0 || fault.Path != "") {
			t.Errorf("%v", err)
		}
	}
}

// P24.1: much more than MaxBytes bytes, and in time.
func TestMuchTooLong(t *testing.T) {
	long := raw(strings.Repeat("a", 1048571))
	many := []api.Value{}
	for i := range 400 {
		many = append(many, num(int64(i)), list(long, long))
	}
	// Maps in one another, in which some is over before all pairs are met.
	inner := object(num(-1), long, num(0), long, num(1), null)
	within := object(num(-2), object(list(), null, inner, inner), num(2), object(text("a"), inner, text("b"), inner))
	wide := object(slices.Collect(func(yield func(api.Value) bool) {
		for i := range int64(500000) {
			if !yield(num(i)) || !yield(null) {
				return
			}
		}
	})...)
	for _, v := range []api.Value{
		list(long), list(long, long, long), object(text("a"), long), object(long, long), ext(0, strings.Repeat("a", 1<<20)), text(strings.Repeat("a", 8<<20)), raw(strings.Repeat("a", 8<<20)), list(slices.Repeat([]api.Value{num(0)}, 2000000)...), list(slices.Repeat([]api.Value{list(long)}, 300)...), nested(100, list(long, long)), object(many...), inner, within, list(within, within), object(within, within), object(list(within), list(within)), wide, nested(120, wide), list(slices.Repeat([]api.Value{whole("-18446744073709551616")}, 300000)...), list(slices.Repeat([]api.Value{float(0x3fb999999999999a)}, 200000)...),
	} {
		fails(t, v, limit, "")
	}
}

// P24.1: what is not MessagePack's, and what value.Check refuses, come ahead of the length, also where they stand behind what is too long.
func TestTooLongAndWrong(t *testing.T) {
	long, bad := raw(strings.Repeat("a", 1048572)), simple(0)
	fails(t, list(long, bad), rep, "/1")
	fails(t, list(long, long, list(num(1), bad)), rep, "/2/1")
	fails(t, list(bad, long), rep, "/0")
	fails(t, object(text("a"), long, text("b"), bad), rep, "/3")
	fails(t, object(long, bad), rep, "/1")
	fails(t, list(long, none), arg, "/1")
	fails(t, list(long, bad, none), arg, "/2")
	fails(t, list(none, long), arg, "/0")
	fails(t, text(strings.Repeat("a", 2000000)+"\xff"), arg, "")
	fails(t, list(long, deep(128)), limit, "/1"+strings.Repeat("/0", 127))
	fails(t, list(slices.Concat(slices.Repeat([]api.Value{num(0)}, 1200000), []api.Value{bad})...), rep, "/1200000")
	fails(t, list(slices.Concat(slices.Repeat([]api.Value{num(0)}, 1200000), []api.Value{none})...), arg, "/1200000")
	for _, c := range atLimit() {
		for _, v := range c {
			if value.Depth(v) < 128 {
				fails(t, list(v, bad), rep, "/1")
				fails(t, list(v), limit, "")
			}
		}
	}
}

// P24.4: what is too long is not canonical, whatever it is.
func TestLongCanon(t *testing.T) {
	for _, s := range []string{
		counted(api.VBytes, strings.Repeat("a", 1048572)), counted(api.VText, strings.Repeat("a", 5000000)), counted(api.VExt, "\x05"+strings.Repeat("a", 1048571)), shortest(api.VList, 1048572) + strings.Repeat("\x00", 1048572), strings.Repeat("\x91", 1048577), strings.Repeat("\x91", 1048576), strings.Repeat("\x00", 1048577), strings.Repeat("\x00", 1048576),
		shortest(api.VList, 1048571) + strings.Repeat("\x00", 1048570), shortest(api.VList, 1048570) + strings.Repeat("\x00", 1048571), shortest(api.VMap, 1048571) + strings.Repeat("\x00", 1048571),
	} {
		canon(t, s, false)
	}
	canon(t, shortest(api.VList, 1048571)+strings.Repeat("\x00", 1048571), true)
	canon(t, shortest(api.VExt, 1048570)+"\x05"+strings.Repeat("\x00", 1048570), true)
}
