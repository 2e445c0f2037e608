package cborread_test

import (
	"slices"
	"strings"
	"testing"

	"crucible/api"
	"crucible/cborread"
	"crucible/value"
)

// nested puts a value in n lists.
func nested(n int, v api.Value) api.Value {
	for range n {
		v = list(v)
	}
	return v
}

// opening is the beginning of a container, up to where another one may stand, with what closes it.
type opening struct{ ahead, behind string }

func openings() []opening {
	return []opening{
		{"\x81", ""}, {"\x82\x00", ""}, {"\x82", "\x00"}, {"\x9f", "\xff"}, {"\x98\x01", ""}, {"\x9b\x00\x00\x00\x00\x00\x00\x00\x01", ""}, {"\x9f\x00", "\x00\xff"},
		{"\xa1\x00", ""}, {"\xa1", "\x00"}, {"\xbf\x00", "\xff"}, {"\xbf", "\x00\xff"}, {"\xb9\x00\x01", "\x00"}, {"\xa2\x00\x00", "\x00"},
		{"\xc1", ""}, {"\xd8\x04", ""}, {"\xd9\x01\x02", ""}, {"\xdb\xff\xff\xff\xff\xff\xff\xff\xff", ""}, {"\xc0", ""},
	}
}

// P20.1: MaxDepth containers of any sort in one another, and one more.
func TestDeep(t *testing.T) {
	if api.MaxDepth != 128 {
		t.Fatal("another limit")
	}
	r := rule{2051}
	all := openings()
	for i := range 300 {
		ahead, behind := "", ""
		for range 128 {
			o := pick(&r, all...)
			if i < len(all) {
				o = all[i]
			}
			ahead, behind = ahead+o.ahead, o.behind+behind
		}
		// What is no container stands there, great numbers and pieces too.
		for _, s := range []string{"\x01", "\xc2\x41\x01", "\xd8\x03\x40", "\xc3\x5f\x41\x00\xff", "\x5f\x41\x01\xff", "\x7f\xff", "\xf6", "\xf8\x20", "\xf9\x3e\x00", "\x61a"} {
			sameAsReference(t, ahead+s+behind)
			if v, err := cborread.Read(ahead + s + behind); err != nil || value.Depth(v) != 128 {
				t.Errorf("the depth is %d, %v", value.Depth(v), err)
			}
		}
		for _, s := range []string{"\x80", "\x9f", "\x9f\xff", "\x81", "\x98\x00", "\x9b\x00\x00\x00\x00\x00\x00\x00\x00", "\xa0", "\xbf", "\xa1\x01", "\xc1", "\xc0\x00", "\xd8\x04", "\xd9\x02\x00", "\x81\x1c", "\x9f\x1c", "\xc1\xff"} {
			fails(t, ahead+s, limit, len(ahead))
			fails(t, ahead+s+behind, limit, len(ahead))
		}
		// It is told when its head has been read: one that is not whole, or none, is told otherwise.
		for _, s := range []string{"", "\x98", "\x99\x00", "\x9b\x00\x00\x00\x00\x00\x00\x00", "\xb8", "\xd8", "\xda\x00\x00\x00", "\xc2", "\xc2\x41"} {
			fails(t, ahead+s, input, len(ahead+s))
		}
		for _, s := range []string{"\x9c", "\xbe", "\xdf", "\x1f"} {
			fails(t, ahead+s, input, len(ahead))
		}
		sameAsReference(t, ahead+"\xff")
		fails(t, ahead+"\xc2\x81", input, len(ahead)+1)
		fails(t, ahead+"\xc2\xc1", input, len(ahead)+1)
		fails(t, ahead+"\x5f\x81", input, len(ahead)+1)
	}
}

// P20.1: what has been closed is open no more.
func TestDeepAgain(t *testing.T) {
	deep := strings.Repeat("\x81", 127)
	reads(t, "\x83"+deep+"\x00"+deep+"\x01"+deep+"\x02", list(nested(127, whole("0")), nested(127, whole("1")), nested(127, whole("2"))))
	reads(t, "\x9f"+deep+"\x00"+strings.Repeat("\x9f", 127)+strings.Repeat("\xff", 127)+"\xff", list(nested(127, whole("0")), nested(126, list())))
	reads(t, "\xa1"+deep+"\x00"+deep+"\x01", object(nested(127, whole("0")), nested(127, whole("1"))))
	tags := whole("5")
	for range 127 {
		tags = tag(6, tags)
	}
	six := strings.Repeat("\xc6", 127)
	reads(t, "\xbf"+six+"\x05\x00\x01"+six+"\xc2\x41\x05\xff", object(whole("1"), tags, tags, whole("0")))
	fails(t, "\x82"+deep+"\x00"+deep+"\x80", limit, 1+128+127)
	fails(t, "\x82"+deep+"\x00"+deep+"\xc1", limit, 1+128+127)
	fails(t, "\xa1"+deep+"\x80", limit, 1+127)
	fails(t, "\xa1\x00"+deep+"\xa0", limit, 2+127)
}

// P20.1: a document of MaxBytes bytes, and of one more, whatever it is.
func TestLongest(t *testing.T) {
	if api.MaxBytes != 1048576 {
		t.Fatal("another limit")
	}
	letters := strings.Repeat("a", 1048571)
	reads(t, "\x7a\x00\x0f\xff\xfb"+letters, text(letters))
	reads(t, "\x5a\x00\x0f\xff\xfb"+letters, raw(letters))
	reads(t, "\x9f"+strings.Repeat("\x80", 1048574)+"\xff", list(slices.Repeat([]api.Value{list()}, 1048574)...))
	reads(t, "\x9f"+strings.Repeat("\xf6", 1048574)+"\xff", list(slices.Repeat([]api.Value{null}, 1048574)...))
	reads(t, "\x5f"+strings.Repeat("\x40", 1048574)+"\xff", raw(""))
	reads(t, "\x7f"+strings.Repeat("\x61a", 524287)+"\xff", text(strings.Repeat("a", 524287)))
	long := strings.Repeat("\x01", 1048576)
	fails(t, long, input, 1)
	fails(t, "\x9f"+long[1:], input, 1048576)
	fails(t, "\x9a\x00\x0f\xff\xff"+long[5:], input, 1048576)
	fails(t, "\x7a\x00\x0f\xff\xfc"+letters, input, 1048576)
	fails(t, "\x7a\x00\x0f\xff\xfa"+letters, input, 1048575)
	fails(t, letters[:10]+long[10:], input, 2)
	for _, s := range []string{long + "\x01", "\x1c" + long, "\xff" + long, strings.Repeat("\x81", 1048577), "\xa2\x01\x01" + long, "\x9f" + long[1:] + "\xff", "\x7a\x00\x0f\xff\xfc" + letters + "a", long + long} {
		fails(t, s, limit, 1048576)
	}
}

// R1: as long as may be, of every sort, ends in time and without a panic.
func TestLong(t *testing.T) {
	fill := func(ahead, part, behind string) string {
		return ahead + strings.Repeat(part, (1048576-len(ahead)-len(behind))/len(part)) + behind
	}
	deep := strings.Repeat("\x9f", 127)
	for _, s := range []string{
		fill("\x9f", "\x01", "\xff"), fill("\x9f", "\xa0", "\xff"), fill("\x9f", "\xbf\xff", "\xff"), fill("\x9f", "\xa1\x01\x01", "\xff"), fill("\x9f", "\xc2\x40", "\xff"), fill("\x9f", "\xc3\x5f\xff", "\xff"), fill("\x9f", "\xfb\x7f\xef\xff\xff\xff\xff\xff\xff", "\xff"), fill("\x9f", "\xfb\x00\x00\x00\x00\x00\x00\x00\x01", "\xff"), fill("\x9f", "\x7f\xff", "\xff"), fill("\x9f", "\xc1\x01", "\xff"), fill("\x9f", "\xf7", "\xff"), fill("\x9f", "\x3b\xff\xff\xff\xff\xff\xff\xff\xff", "\xff"),
		fill("\x7f", "\x64😀", "\xff"), fill(deep, "\x01", strings.Repeat("\xff", 127)), fill(deep, "\x81\x01", strings.Repeat("\xff", 127)),
	} {
		v, err := cborread.Read(s)
		if err != nil || value.Check(v) != nil {
			t.Errorf("Read(%s): %v", hexed(s), err)
		}
	}
	for _, s := range []string{fill("", "\x81", ""), fill("", "\x9f", ""), fill("", "\xa1", ""), fill("", "\xbf", ""), fill("", "\xc1", ""), fill("", "\xc2", ""), fill("", "\x5f", ""), fill("\x5f", "\x40", ""), fill("", "\xff", ""), fill("\x9f", "\x01", ""), fill("\x9b\xff\xff\xff\xff\xff\xff\xff\xff", "\x01", ""), fill("\xbf", "\x01\x01", "\xff"), fill("\xbb\xff\xff\xff\xff\xff\xff\xff\xff", "\x01", ""), fill("\x7b\xff\xff\xff\xff\xff\xff\xff\xff", "a", ""), fill("\x5b\xff\xff\xff\xff\xff\xff\xff\xff", "a", "")} {
		v, err := cborread.Read(s)
		if err == nil || !same(v, api.Value{}) {
			t.Errorf("Read(%s) = %s, %v", hexed(s), show(v), err)
		}
	}
}
