package packread_test

import (
	"math"
	"strings"
	"testing"

	"crucible/api"
	"crucible/packread"
)

// P23.2: a place that is none of the bytes, ahead of all else.
func TestNextPlaces(t *testing.T) {
	for _, s := range []string{"", "\x00", "\xc1", "\x92\x01", strings.Repeat("\x00", 1048576), strings.Repeat("\x00", 1048577)} {
		for _, at := range []int{-1, -2, len(s) + 1, len(s) + 2, math.MinInt, math.MinInt + 1, math.MaxInt, math.MaxInt - 1, -len(s) - 1, 2*len(s) + 1} {
			nextAnswers(t, s, at, api.Value{}, 0, told{code: arg})
		}
		if len(s) <= 1048576 {
			nextAnswers(t, s, len(s), api.Value{}, 0, told{input, len(s)})
		}
	}
}

// P23.2: too many bytes, at whatever place; as many as may be, at the last ones.
func TestNextLongest(t *testing.T) {
	long := strings.Repeat("\x07", 1048577)
	for _, at := range []int{0, 1, 1000, 1048575, 1048576, 1048577} {
		nextAnswers(t, long, at, api.Value{}, 0, told{limit, 1048576})
		nextAnswers(t, "\xc1"+long, at, api.Value{}, 0, told{limit, 1048576})
	}
	for _, at := range []int{0, 1, 1000, 1048574, 1048575} {
		nextAnswers(t, long[:1048576], at, whole("7"), at+1, told{})
	}
	nextAnswers(t, long[:1048576], 1048576, api.Value{}, 0, told{input, 1048576})
	nextAnswers(t, long[:1048575]+"\xcc", 1048575, api.Value{}, 0, told{input, 1048576})
	nextAnswers(t, long[:1048574]+"\xcc\x18", 1048574, whole("24"), 1048576, told{})
	nextAnswers(t, long[:1048574]+"\xcc\xc1", 1048575, api.Value{}, 0, told{input, 1048575})
}

// P23.2: what stands behind the item is not looked at; what stands ahead of it neither.
func TestNextAround(t *testing.T) {
	r := rule{2061}
	for i := range 20000 {
		x := r.made(3, i%3 == 0)
		ahead, behind := r.bytes(8), r.bytes(8)
		if i%2 == 0 {
			ahead, behind = r.anyString(2), r.anyString(2)
		}
		end := 0
		if x.told == (told{}) {
			end = len(ahead + x.s)
		}
		nextAnswers(t, ahead+x.s+behind, len(ahead), x.value, end, x.told.farther(len(ahead)))
		nextAnswers(t, ahead+x.s, len(ahead), x.value, end, x.told.farther(len(ahead)))
		if t.Failed() {
			break
		}
	}
	for _, behind := range []string{"\xc1", "\xff", "\xa1", "\x91", strings.Repeat("\x91", 200)} {
		nextAnswers(t, "\x01"+behind, 0, whole("1"), 1, told{})
		nextAnswers(t, "\x92\x01\xcc\x40"+behind, 0, list(whole("1"), whole("64")), 4, told{})
		nextAnswers(t, "\xc1\xdc\x00\x00"+behind, 1, list(), 4, told{})
	}
	// Containers that stand ahead are none around it.
	nextAnswers(t, strings.Repeat("\x81", 200)+"\x91\x00", 200, list(whole("0")), 202, told{})
	nextAnswers(t, strings.Repeat("\x91", 200)+"\x00", 72, nested(128, whole("0")), 201, told{})
	nextAnswers(t, strings.Repeat("\x91", 200)+"\x00", 71, api.Value{}, 0, told{limit, 199})
	nextAnswers(t, strings.Repeat("\x91", 200)+"\x00", 0, api.Value{}, 0, told{limit, 128})
}

// P23.2: at every place of any bytes, held against the reference.
func TestNextEverywhere(t *testing.T) {
	r := rule{2062}
	for range 3000 {
		s := r.anyString(4)
		for at := -1; at <= len(s)+1; at++ {
			v, n, e := wantsNext(s, at)
			nextAnswers(t, s, at, v, n, e)
		}
		if t.Failed() {
			break
		}
	}
}

// P23.1, P23.2: Read is Next at 0 with nothing behind it.
func TestReadIsNext(t *testing.T) {
	r := rule{2063}
	for range 30000 {
		s := r.anyString(3)
		v, n, err := packread.Next(s, 0)
		e := tells(err)
		if err == nil && n < len(s) {
			v, e = api.Value{}, told{input, n}
		}
		answers(t, s, v, e)
	}
}
