package packread_test

import (
	"slices"
	"strings"
	"testing"

	"crucible/api"
	"crucible/packread"
	"crucible/value"
)

// nested puts a value in n lists.
func nested(n int, v api.Value) api.Value {
	for range n {
		v = list(v)
	}
	return v
}

// opening is the beginning of a container, up to where another one may stand, with what closes it.
type opening struct{ ahead, behind string }

func openings() []opening {
	return []opening{
		{"\x91", ""}, {"\x92\x00", ""}, {"\x92", "\x00"}, {"\xdc\x00\x01", ""}, {"\xdd\x00\x00\x00\x01", ""}, {"\xdc\x00\x03\x00", "\x00"},
		{"\x81\x00", ""}, {"\x81", "\x00"}, {"\xde\x00\x01\x00", ""}, {"\xdf\x00\x00\x00\x01", "\x00"}, {"\x82\x00\x00", "\x00"}, {"\xde\x00\x02\x00\x00\x01", ""},
	}
}

// P23.1: MaxDepth containers of any sort in one another, and one more.
func TestDeep(t *testing.T) {
	if api.MaxDepth != 128 {
		t.Fatal("another limit")
	}
	r := rule{2351}
	all := openings()
	for i := range 300 {
		ahead, behind := "", ""
		for range 128 {
			o := pick(&r, all...)
			if i < len(all) {
				o = all[i]
			}
			ahead, behind = ahead+o.ahead, o.behind+behind
		}
		// What is no container stands there.
		for _, s := range []string{"\x01", "\xff", "\xcc\x91", "\xd3\x00\x00\x00\x00\x00\x00\x00\x01", "\xc4\x01\x91", "\xa1a", "\xc0", "\xc3", "\xd4\x05\x91", "\xc7\x00\x81", "\xca\x3f\xc0\x00\x00"} {
			sameAsReference(t, ahead+s+behind)
			if v, err := packread.Read(ahead + s + behind); err != nil || value.Depth(v) != 128 {
				t.Errorf("the depth is %d, %v", value.Depth(v), err)
			}
		}
		for _, s := range []string{"\x90", "\x91", "\x9f", "\xdc\x00\x00", "\xdc\x00\x01", "\xdd\x00\x00\x00\x00", "\xdd\xff\xff\xff\xff", "\x80", "\x81", "\x8f\xc1", "\xde\x00\x00", "\xdf\x00\x00\x00\x00", "\x81\x01", "\x91\xc1", "\xde\x00\x01\xc1"} {
			fails(t, ahead+s, limit, len(ahead))
			fails(t, ahead+s+behind, limit, len(ahead))
		}
		// It is told when its head has been read: one that is not whole, or none, is told otherwise.
		for _, s := range []string{"", "\xdc", "\xdc\x00", "\xdd", "\xdd\x00\x00\x00", "\xde", "\xde\x00", "\xdf\x00\x00\x00", "\xc4", "\xa1"} {
			fails(t, ahead+s, input, len(ahead+s))
		}
		fails(t, ahead+"\xc1", input, len(ahead))
	}
}

// P23.1: what has been closed is open no more.
func TestDeepAgain(t *testing.T) {
	deep := strings.Repeat("\x91", 127)
	reads(t, "\x93"+deep+"\x00"+deep+"\x01"+deep+"\x02", list(nested(127, whole("0")), nested(127, whole("1")), nested(127, whole("2"))))
	reads(t, "\x92"+deep+"\x00"+deep[1:]+"\x90", list(nested(127, whole("0")), nested(126, list())))
	reads(t, "\x81"+deep+"\x00"+deep+"\x01", object(nested(127, whole("0")), nested(127, whole("1"))))
	maps := whole("5")
	for range 127 {
		maps = object(null, maps)
	}
	six := strings.Repeat("\x81\xc0", 127)
	reads(t, "\x82"+six+"\x05\x00\x01"+six+"\xcc\x05", object(whole("1"), maps, maps, whole("0")))
	fails(t, "\x92"+deep+"\x00"+deep+"\x90", limit, 1+128+127)
	fails(t, "\x92"+deep+"\x00"+deep+"\x80", limit, 1+128+127)
	fails(t, "\x81"+deep+"\x90", limit, 1+127)
	fails(t, "\x81\x00"+deep+"\x80", limit, 2+127)
}

// P23.1: a document of MaxBytes bytes, and of one more, whatever it is.
func TestLongest(t *testing.T) {
	if api.MaxBytes != 1048576 {
		t.Fatal("another limit")
	}
	letters := strings.Repeat("a", 1048571)
	reads(t, "\xdb\x00\x0f\xff\xfb"+letters, text(letters))
	reads(t, "\xc6\x00\x0f\xff\xfb"+letters, raw(letters))
	reads(t, "\xc9\x00\x0f\xff\xfa\x07"+letters[1:], extension(7, letters[1:]))
	reads(t, "\xdd\x00\x0f\xff\xfb"+strings.Repeat("\x90", 1048571), list(slices.Repeat([]api.Value{list()}, 1048571)...))
	reads(t, "\xdd\x00\x0f\xff\xfb"+strings.Repeat("\xc0", 1048571), list(slices.Repeat([]api.Value{null}, 1048571)...))
	long := strings.Repeat("\x01", 1048576)
	fails(t, long, input, 1)
	fails(t, "\xdd\x00\x0f\xff\xff"+long[5:], input, 1048576)
	fails(t, "\xdd\x00\x0f\xff\xfa"+long[5:], input, 1048575)
	fails(t, "\xdb\x00\x0f\xff\xfc"+letters, input, 1048576)
	fails(t, "\xdb\x00\x0f\xff\xfa"+letters, input, 1048575)
	for _, s := range []string{long + "\x01", "\xc1" + long, strings.Repeat("\x91", 1048577), "\x82\x01\x01" + long, "\xdd\x00\x0f\xff\xfc" + strings.Repeat("\xc0", 1048572), "\xdb\x00\x0f\xff\xfc" + letters + "a", long + long} {
		fails(t, s, limit, 1048576)
	}
}

// full is a list with as many of a part as there is room for, in so many lists.
func full(around int, part string, items int) string {
	n := (1048576 - 5 - around) / len(part)
	return strings.Repeat("\x91", around) + inBytes(0xdd, 4, uint64(n*items)) + strings.Repeat(part, n)
}

// R1: as long as may be, of every sort, ends in time and without a panic.
func TestLong(t *testing.T) {
	for _, s := range []string{
		full(0, "\x01", 1), full(0, "\x80", 1), full(0, "\xde\x00\x00", 1), full(0, "\x81\x01\x01", 1), full(0, "\xcc\x40", 1), full(0, "\xcb\x7f\xef\xff\xff\xff\xff\xff\xff", 1), full(0, "\xcb\x00\x00\x00\x00\x00\x00\x00\x01", 1), full(0, "\xa0", 1), full(0, "\xd3\x80\x00\x00\x00\x00\x00\x00\x00", 1), full(0, "\xc7\x00\x01", 1), full(0, "\xa4😀", 1), full(127, "\x01", 1), full(126, "\x91\x01", 1), full(126, "\x81\x01\x02", 1),
	} {
		v, err := packread.Read(s)
		if err != nil || value.Check(v) != nil {
			t.Errorf("Read(%s): %v", hexed(s), err)
		}
	}
	rest := strings.Repeat("\x01", 1048571)
	for _, s := range []string{strings.Repeat("\x91", 1048576), strings.Repeat("\x81", 1048576), strings.Repeat("\x9f", 1048576), strings.Repeat("\xdd", 1048576), strings.Repeat("\xdf", 1048576), strings.Repeat("\xc1", 1048576), strings.Repeat("\xa1", 1048576), "\xdd\xff\xff\xff\xff" + rest, "\xdf\xff\xff\xff\xff" + rest, "\xdb\xff\xff\xff\xff" + rest, "\xc6\xff\xff\xff\xff" + rest, "\xc9\xff\xff\xff\xff" + rest} {
		v, err := packread.Read(s)
		if err == nil || !same(v, api.Value{}) {
			t.Errorf("Read(%s) = %s, %v", hexed(s), show(v), err)
		}
	}
}

// R1: as many keys as there is room for, rising, falling and otherwise, end in time.
func TestLongMaps(t *testing.T) {
	const many = 1 << 17
	for _, turn := range []func(i int) int{func(i int) int { return i }, func(i int) int { return many - 1 - i }, func(i int) int { return i * 40503 % many }, func(i int) int { return i/2 + i%2*many/2 }} {
		var b strings.Builder
		b.WriteString(inBytes(0xdf, 4, many))
		for i := range many {
			b.WriteString(inBytes(0xce, 4, uint64(turn(i))+1<<31) + "\x00")
		}
		s := b.String()
		v, err := packread.Read(s)
		if err != nil || len(v.Kids) != 2*many || value.Check(v) != nil {
			t.Errorf("a map of %d keys: %v", many, err)
		}
		// One of them again, which is wrong behind it.
		again := s[5 : 5+5]
		fails(t, inBytes(0xdf, 4, many+1)+s[5:]+again+"\xc1", input, len(s))
	}
	// Keys that are the same all along: lists of as much.
	key := inBytes(0xdc, 2, 1000) + strings.Repeat("\x01", 999)
	var b strings.Builder
	b.WriteString(inBytes(0xde, 2, 1000))
	for i := range 1000 {
		b.WriteString(key + inBytes(0xcd, 2, uint64(1000-i)) + "\x00")
	}
	if v, err := packread.Read(b.String()); err != nil || len(v.Kids) != 2000 || value.Check(v) != nil {
		t.Errorf("a map of 1000 lists: %v", err)
	}
}
