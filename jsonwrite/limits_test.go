package jsonwrite_test

import (
	"slices"
	"strconv"
	"strings"
	"testing"

	"crucible/api"
	"crucible/jsonread"
	"crucible/jsonwrite"
	"crucible/value"
)

// P18.1, P18.2, P18.4: MaxDepth lists and maps in one another, and one more.
func TestDeep(t *testing.T) {
	if api.MaxDepth != 128 {
		t.Fatal("another limit")
	}
	opening, closing := strings.Repeat("[", 128), strings.Repeat("]", 128)
	writes(t, deep(127), opening[1:]+closing[1:])
	writes(t, deep(128), opening+closing)
	writes(t, nested(128, text("[")), opening+`"["`+closing)
	writes(t, nested(127, list(num(0), text("]"))), opening+`0,"]"`+closing)
	writes(t, nested(127, object()), opening[1:]+"{}"+closing[1:])
	fails(t, deep(129), limit, strings.Repeat("/0", 128))
	fails(t, nested(128, object()), limit, strings.Repeat("/0", 128))
	fails(t, nested(128, tag(1, null)), limit, strings.Repeat("/0", 128))
	fails(t, list(num(0), deep(200)), limit, "/1"+strings.Repeat("/0", 127))
	maps := object()
	for range 127 {
		maps = object(text(""), maps)
	}
	inMaps := strings.Repeat(`{"":`, 127) + "{}" + strings.Repeat("}", 127)
	writes(t, maps, inMaps)
	fails(t, object(text("a"), maps), limit, strings.Repeat("/1", 128))
	fails(t, list(maps), limit, "/0"+strings.Repeat("/1", 127))
	// What stands too deep comes ahead of what is not JSON's, as value.Check tells it.
	fails(t, list(raw(""), deep(128)), limit, "/1"+strings.Repeat("/0", 127))
	fails(t, list(deep(128), raw("")), limit, strings.Repeat("/0", 128))
	fails(t, nested(127, tag(1, raw(""))), rep, strings.Repeat("/0", 127))
	fails(t, nested(128, raw("")), rep, strings.Repeat("/0", 128))

	canon(t, opening+closing, true)
	canon(t, opening+"0"+closing, true)
	canon(t, inMaps, true)
	canon(t, "["+opening+closing+"]", false)
	canon(t, "[0,"+opening+closing+"]", false)
	canon(t, "["+inMaps+"]", false)
	canon(t, `{"a":`+inMaps+"}", false)
	canon(t, opening+"{}"+closing, false)
	canon(t, opening[1:]+"[],{},[0]"+closing[1:], true)
	canon(t, opening+closing[1:], false)
	canon(t, opening[1:]+closing, false)
	canon(t, strings.Repeat("[", 1000), false)
	canon(t, "["+opening[1:]+closing[1:]+","+opening[1:]+closing[1:]+"]", true)
	r := rule{1808}
	for range 30 {
		v := r.value(3, false)
		d := value.Depth(v)
		for range 128 - d {
			v = pick(&r, list(v), object(text("a"), v), list(num(0), v), object(text(""), num(1), text("b"), v))
		}
		s := written(v)
		writes(t, v, s)
		if d > 0 {
			_, e := wants(list(v))
			fails(t, list(v), limit, e.path)
			canon(t, "["+s+"]", false)
			canon(t, `{"a":`+s+"}", false)
		}
	}
}

// atLimit: values whose texts have just MaxBytes bytes, and for each one whose text has one more.
func atLimit() [][2]api.Value {
	letters := func(n int) api.Value { return text(strings.Repeat("a", n)) }
	nulls := func(n int, more ...api.Value) api.Value {
		return list(append(slices.Repeat([]api.Value{null}, n), more...)...)
	}
	keys := func(last string) api.Value {
		v := object()
		for i := range 80655 {
			v.Kids = append(v.Kids, text("k"+strconv.Itoa(100000+i)), list())
		}
		v.Kids = append(v.Kids, text(last), null)
		return v
	}
	return [][2]api.Value{
		{letters(1048574), letters(1048575)},
		{text(strings.Repeat("é", 524287)), text(strings.Repeat("é", 524287) + "a")},
		{text(strings.Repeat("😀", 262143) + "aa"), text("aaa" + strings.Repeat("😀", 262143))},
		{text(strings.Repeat("\n", 524287)), text(strings.Repeat("\n", 524287) + "a")},
		{text(strings.Repeat("\"", 524286) + "aa"), text(strings.Repeat("\\", 524287) + "a")},
		{text(strings.Repeat("\x00", 174762) + "aa"), text("a" + strings.Repeat("\x1f", 174762) + "aa")},
		{list(letters(1048572)), list(letters(1048573))},
		{list(letters(500000), letters(548569)), list(letters(548569), letters(500001))},
		{object(letters(1048572-2), num(0)), object(letters(1048572-2), num(10))},
		{object(text("k"), letters(1048568)), object(text("k"), letters(1048569))},
		{nulls(209714, num(1000)), nulls(209714, num(10000))},
		{nulls(209714, list(num(10))), nulls(209714, list(num(100)))},
		{nulls(209713, list(), num(100000)), nulls(209713, object(), num(-100000))},
		{keys("x" + strings.Repeat("y", 51)), keys("x" + strings.Repeat("y", 52))},
		{nested(128, letters(1048576-258)), nested(128, letters(1048576-257))},
		{list(float(half3), letters(1048576-8)), list(float(half3|1<<63), letters(1048576-8))},
	}
}

// P18.1, P18.2, P18.4: a text of MaxBytes bytes, and of one more.
func TestLongest(t *testing.T) {
	if api.MaxBytes != 1048576 {
		t.Fatal("another limit")
	}
	for i, c := range atLimit() {
		just, over := written(c[0]), written(c[1])
		if len(just) != 1048576 || len(over) != 1048577 {
			t.Errorf("row %d: %d and %d bytes", i, len(just), len(over))
			continue
		}
		answers(t, c[0], just, told{})
		fails(t, c[1], limit, "")
		if v, err := jsonread.Read(just); err != nil || !same(v, c[0]) {
			t.Errorf("row %d: read as %s, %v", i, show(v), err)
		}
		canon(t, just, true)
		canon(t, over, false)
		canon(t, just+" ", false)
		canon(t, " "+just, false)
	}
}

// P18.1: much more than MaxBytes bytes.
func TestMuchTooLong(t *testing.T) {
	long := text(strings.Repeat("a", 1048574))
	for _, v := range []api.Value{
		list(long), list(long, long, long), object(text("a"), long), object(long, long), text(strings.Repeat("a", 8<<20)), text(strings.Repeat("\x00", 200000)), list(slices.Repeat([]api.Value{num(0)}, 2000000)...), list(slices.Repeat([]api.Value{list(long)}, 50)...), nested(100, list(long, long)),
	} {
		fails(t, v, limit, "")
	}
}

// P18.1: a node that is not JSON's, and what value.Check refuses, come ahead of the length, also where they stand behind what is too long.
func TestTooLongAndWrong(t *testing.T) {
	long := text(strings.Repeat("a", 1048575))
	fails(t, list(long, raw("")), rep, "/1")
	fails(t, list(long, long, list(num(1), float(plus))), rep, "/2/1")
	fails(t, list(raw(""), long), rep, "/0")
	fails(t, object(text("a"), long, text("b"), whole("9007199254740993")), rep, "/3")
	fails(t, object(num(1), long), rep, "/0")
	fails(t, object(text("a"), long, list(), null), rep, "/2")
	fails(t, raw(strings.Repeat("a", 2000000)), rep, "")
	fails(t, tag(1, long), rep, "")
	fails(t, list(long, none), arg, "/1")
	fails(t, list(long, raw(""), none), arg, "/2")
	fails(t, list(none, long), arg, "/0")
	fails(t, text(strings.Repeat("a", 2000000)+"\xff"), arg, "")
	fails(t, list(long, deep(128)), limit, "/1"+strings.Repeat("/0", 127))
	fails(t, list(slices.Concat(slices.Repeat([]api.Value{num(0)}, 600000), []api.Value{raw("")})...), rep, "/600000")
	fails(t, list(slices.Concat(slices.Repeat([]api.Value{num(0)}, 600000), []api.Value{none})...), arg, "/600000")
	for _, c := range atLimit() {
		for _, v := range c {
			if value.Depth(v) < 128 {
				fails(t, list(v, raw("")), rep, "/1")
				fails(t, list(v), limit, "")
			}
		}
	}
}

// P18.4: the length is asked first of all, and what is too long is not canonical, whatever it is.
func TestLongCanon(t *testing.T) {
	for _, s := range []string{
		`"` + strings.Repeat("a", 1048575) + `"`, `"` + strings.Repeat("a", 5000000) + `"`, "[" + strings.Repeat("0,", 524288) + "0]", strings.Repeat("[", 1048577), strings.Repeat(" ", 1048577), strings.Repeat("0", 1048577), "", strings.Repeat("9", 1048576), "0." + strings.Repeat("0", 1048574), "1" + strings.Repeat("0", 1048575), strings.Repeat(" ", 1048575) + "0", `"` + strings.Repeat("a", 1048575),
	} {
		canon(t, s, false)
	}
	canon(t, "["+strings.Repeat("0,", 524286)+"10]", true)
	canon(t, "["+strings.Repeat("0,", 524286)+"100]", false)
	canon(t, "["+strings.Repeat("[],", 349524)+"10]", true)
	canon(t, "["+strings.Repeat("[],", 349524)+"100]", false)
	if s, err := jsonwrite.Write(list(slices.Repeat([]api.Value{num(0)}, 524287)...)); len(s) != 1048575 || err != nil {
		t.Errorf("%d, %v", len(s), err)
	}
}
