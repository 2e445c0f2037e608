package cborread_test

import (
	"slices"
	"strings"
	"testing"

	"crucible/api"
	"crucible/cborread"
	"crucible/value"
)

// P20.1: lists with their length, in a head of any length, and with a break.
func TestLists(t *testing.T) {
	for n := range 300 {
		want := list()
		s := ""
		for i := range n {
			kid := pick(&rule{uint64(i)}, whole("7"), text("ab"), null, list(whole("0")))
			want.Kids = append(want.Kids, kid)
			s += (&rule{1}).form(kid)
		}
		for _, head := range heads(4, uint64(n)) {
			reads(t, head+s, want)
			fails(t, head+s+"\xff", input, len(head+s))
			if n > 0 {
				fails(t, head+s[:len(s)-1], input, len(head+s)-1)
			}
		}
		reads(t, "\x9f"+s+"\xff", want)
		fails(t, "\x9f"+s, input, 1+len(s))
		fails(t, heads(4, uint64(n+1))[0]+s, input, len(heads(4, uint64(n+1))[0]+s))
		fails(t, heads(4, uint64(n+1))[0]+s+"\xff", input, len(heads(4, uint64(n+1))[0]+s))
	}
	one := whole("1")
	for _, c := range []struct {
		s    string
		want api.Value
	}{
		{"80", list()}, {"9f ff", list()}, {"81 80", list(list())}, {"9f 9f ff 80 ff", list(list(), list())}, {"82 9f ff 01", list(list(), one)}, {"84 01 01 01 01", list(one, one, one, one)}, {"9f a0 bf ff c1 80 ff", list(object(), object(), tag(1, list()))}, {"9f 41 ff 62 61 61 ff", list(raw("\xff"), text("aa"))},
	} {
		reads(t, of(c.s), c.want)
	}
}

// P20.1: maps with their length and with a break; keys of every kind.
func TestMaps(t *testing.T) {
	one, two := whole("1"), whole("2")
	for _, c := range []struct {
		s    string
		want api.Value
	}{
		{"a0", object()}, {"bf ff", object()}, {"b8 00", object()}, {"a1 a0 a0", object(object(), object())}, {"bf bf ff bf ff ff", object(object(), object())}, {"a2 02 01 01 02", object(one, two, two, one)}, {"bf 02 01 01 02 ff", object(one, two, two, one)}, {"bb 00 00 00 00 00 00 00 01 01 02", object(one, two)}, {"b9 00 01 01 02", object(one, two)}, {"ba 00 00 00 01 01 02", object(one, two)},
		{"a2 20 01 00 02", object(whole("-1"), one, whole("0"), two)}, {"a2 f5 01 f4 02", object(no, two, yes, one)}, {"a2 41 61 01 61 61 02", object(text("a"), two, raw("a"), one)}, {"a2 81 01 01 80 02", object(list(), two, list(one), one)}, {"a2 c1 01 01 c0 02 02", object(tag(0, two), two, tag(1, one), one)}, {"a2 a1 01 01 01 a0 02", object(object(), two, object(one, one), one)}, {"a2 f8 20 01 e0 02", object(simple(0), two, simple(32), one)}, {"a2 f6 01 f7 02", object(null, one, simple(23), two)},
		{"a3 f9 7e 00 01 f9 7c 00 02 f9 fc 00 01", object(float(0xfff0000000000000), one, float(0x7ff0000000000000), two, float(0x7ff8000000000000), one)}, {"a3 fb 3f b9 99 99 99 99 99 9a 01 00 02 f9 3e 00 01", object(whole("0"), two, float(0x3fb999999999999a), one, float(0x3ff8000000000000), one)},
	} {
		reads(t, of(c.s), c.want)
	}
	for _, s := range []string{"a1 ^", "a1 01 ^", "bf ^", "bf 01 ^", "bf 01 02 ^", "a2 01 02 ^", "a2 01 02 03 ^", "a1 01 02 ^ 03", "a1 ^ ff", "a2 01 02 ^ ff", "a2 01 02 03 ^ ff", "bf 01 ^ ff", "bf 01 02 03 ^ ff", "bf 01 02 ff ^ ff", "bb ff ff ff ff ff ff ff ff 01 02 ^", "bb ff ff ff ff ff ff ff ff 01 ^", "bb 80 00 00 00 00 00 00 00 ^", "bb 80 00 00 00 00 00 00 00 ^ ff", "bb 80 00 00 00 00 00 00 01 01 02 ^", "9b 80 00 00 00 00 00 00 00 01 ^", "9b ff ff ff ff ff ff ff ff ^ ff", "9b 00 00 00 01 00 00 00 00 00 00 ^"} {
		failsAt(t, s)
	}
}

// rising are values that rise by the order of values.
func rising() []api.Value {
	return []api.Value{
		null, no, yes, whole("-18446744073709551617"), whole("-18446744073709551616"), whole("-4294967296"), whole("-2"), whole("-1"), whole("0"), whole("1"), whole("24"), whole("4294967295"), whole("4294967296"), whole("18446744073709551615"), whole("18446744073709551616"),
		float(0xfff0000000000000), float(0xbff8000000000000), float(0x8000000000000001), float(1), float(0x3fb999999999999a), float(0x3ff8000000000000), float(0x7ff0000000000000), float(0x7ff8000000000000),
		text(""), text("\x00"), text("a"), text("aa"), text("b"), text("é"), text("ﬀ"), text("😀"), raw(""), raw("a"), raw("aa"), raw("\xff"),
		list(), list(null), list(null, null), list(whole("1")), list(whole("2")), list(list()), object(), object(null, yes), object(whole("1"), null), object(whole("1"), whole("0"), whole("2"), whole("0")),
		tag(0, whole("5")), tag(1, null), tag(1, whole("0")), tag(1<<64-1, null), simple(0), simple(19), simple(23), simple(32), simple(255),
	}
}

// P20.1: the keys of a map rise, in whatever order and form they stood.
func TestKeyOrder(t *testing.T) {
	all := rising()
	for i := 1; i < len(all); i++ {
		if value.Compare(all[i-1], all[i]) >= 0 {
			t.Fatalf("%s is not below %s", show(all[i-1]), show(all[i]))
		}
	}
	r := rule{2031}
	for range 500 {
		want := object()
		for _, key := range all {
			if r.below(3) > 0 {
				want.Kids = append(want.Kids, key, r.value(1))
			}
		}
		reads(t, r.form(want), want)
		reads(t, r.form(list(want, want)), list(want, want))
	}
	for i, a := range all {
		for j, b := range all {
			s := "\xa2" + r.form(a) + "\x01" + r.form(b) + "\x02"
			switch {
			case i < j:
				reads(t, s, object(a, whole("1"), b, whole("2")))
			case i > j:
				reads(t, s, object(b, whole("2"), a, whole("1")))
			default:
				_, behind, err := cborread.Next(s, 1)
				if err != nil {
					t.Fatal(err)
				}
				fails(t, s, input, behind+1)
			}
		}
	}
}

// P20.1: a key that stands twice, ahead of or behind others, in the same form or another one.
func TestTwice(t *testing.T) {
	for _, s := range []string{
		"a2 01 02 ^ 01 03", "a2 01 02 ^ f9 3c 00 03", "a2 f9 3c 00 02 ^ 01 03", "a2 01 02 ^ c2 41 01 03", "a2 01 02 ^ 18 01 03", "a2 20 02 ^ c3 40 03", "a2 82 01 02 00 ^ 82 01 18 02 00", "a2 80 00 ^ 9f ff 00", "a2 a0 00 ^ bf ff 00", "a2 61 61 00 ^ 7f 61 61 ff 00", "a2 60 00 ^ 7f 60 ff 00", "a2 40 00 ^ 5f ff 00", "a2 43 01 02 03 00 ^ 5f 41 01 42 02 03 ff 00", "a2 f9 7e 00 00 ^ fa 7f 80 00 01 00", "a2 f9 7e 00 00 ^ fb ff ff ff ff ff ff ff ff 00", "a2 f9 7c 00 00 ^ fa 7f 80 00 00 00", "a2 c1 01 00 ^ d8 01 18 01 00", "a2 f6 00 ^ f6 00", "a2 f4 00 ^ f4 00", "a2 e0 00 ^ e0 00", "a2 f8 ff 00 ^ f8 ff 00", "a2 f9 3e 00 00 ^ fb 3f f8 00 00 00 00 00 00 00", "a2 a2 01 02 03 04 00 ^ a2 03 04 01 02 00",
		"bf 01 02 ^ 01 03 ff", "a3 01 00 02 00 ^ 01 00", "a3 01 00 02 00 ^ 02 00", "a4 02 00 01 00 03 00 ^ 01 00", "a4 01 00 02 00 ^ 02 00 01 00", "bf 03 00 02 00 01 00 ^ 03 00 ff", "a5 05 00 01 00 04 00 02 00 ^ 04 00",
		// Only keys of the same map count.
		"a2 01 a1 01 00 ^ 01 00", "a2 01 a2 01 00 ^ 01 00 01 00", "82 a1 01 00 a2 01 00 ^ 01 00", "a2 a1 01 00 00 01 a2 02 00 ^ 02 00", "a2 a2 01 00 ^ 01 00 00",
		// It is told when the key has been read whole: what is wrong behind it comes later, what is wrong in it comes ahead.
		"a2 01 02 ^ 01 1c", "a2 01 02 ^ 01", "a2 01 02 ^ 01 ff", "a2 01 02 ^ 18 01", "bf 01 02 ^ 01", "a2 81 01 00 ^ 81 01", "a2 81 01 00 81 ^", "a2 81 01 00 81 ^ ff", "a2 19 01 00 00 19 01 ^", "a2 61 61 00 61 ^ ff", "a2 c2 41 01 00 c2 ^ 01", "a3 01 00 a2 02 00 ^ 02 00 00 01 00",
	} {
		failsAt(t, s)
		failsAt(t, "82 00"+s)
		failsAt(t, "bf 00"+s)
		failsAt(t, "a1"+s)
		failsAt(t, "c1"+s)
	}
	for _, s := range []string{"a2 01 02 02 01", "a2 01 01 02 02", "a2 00 00 20 00", "a2 60 00 40 00", "a2 61 61 00 41 61 00", "a2 01 00 61 31 00", "a2 01 00 c1 01 00", "a2 01 00 81 01 00", "a2 80 00 a0 00", "a2 a1 01 00 00 a1 01 01 00", "a2 f9 3e 00 00 01 00", "a2 fa 7f 7f ff ff 00 f9 7c 00 00", "a2 c2 49 01 00 00 00 00 00 00 00 00 00 c2 49 01 00 00 00 00 00 00 00 01 00", "a2 fb 3f b9 99 99 99 99 99 9a 00 fa 3d cc cc cd 00", "a1 01 a1 01 a1 01 01", "82 a1 01 01 a1 01 01", "a2 c0 01 00 c1 01 00", "a2 e0 00 00 00", "a2 f4 00 e0 00"} {
		v, err := cborread.Read(of(s))
		if err != nil {
			t.Errorf("Read(%s): %v", s, err)
		}
		mayBe(t, s, v)
		sameAsReference(t, of(s))
	}
}

// P20.1: a map of many keys, however they stand, and one of them again.
func TestManyKeys(t *testing.T) {
	var keys []int
	for i := range 20000 {
		keys = append(keys, i)
	}
	want := object()
	for _, key := range keys {
		want.Kids = append(want.Kids, text(string([]byte{byte(key >> 14), byte(key >> 7 & 127), byte(key & 127)})), null)
	}
	r := rule{2032}
	for range 6 {
		var s strings.Builder
		s.WriteString("\xbf")
		at := map[int]int{}
		for _, key := range keys {
			at[key] = s.Len()
			s.WriteString("\x63" + want.Kids[2*key].Text + "\xf6")
		}
		reads(t, s.String()+"\xff", want)
		for _, key := range []int{0, 1, 9999, 19999, r.below(20000)} {
			again := s.String()[at[key] : at[key]+4]
			fails(t, s.String()+again+"\xf6\xff", input, s.Len())
			fails(t, s.String()[:at[key]+5]+again+s.String()[at[key]+5:], input, at[key]+5)
		}
		slices.Reverse(keys)
		if at[0] > at[1] {
			shuffle(&r, keys)
		}
	}
}

// P20.1: a map of many keys that fall, so that each goes ahead of all that have been met.
func TestFallingKeys(t *testing.T) {
	var s strings.Builder
	want := object()
	s.WriteString("\xbf")
	for i := range 65536 {
		n := 65535 - i
		s.WriteString("\x19" + string([]byte{byte(n >> 8), byte(n)}) + "\xf6")
	}
	for n := range 65536 {
		want.Kids = append(want.Kids, api.Value{Kind: api.VInt}, null)
		if n > 0 {
			want.Kids[2*n].Int.Mag = api.Nat{uint32(n)}
		}
	}
	reads(t, s.String()+"\xff", want)
}

// P20.1: tags, over each kind of item, and one over another.
func TestTags(t *testing.T) {
	r := rule{2033}
	for _, n := range edges() {
		if n == 2 || n == 3 {
			continue
		}
		for _, head := range heads(6, n) {
			v := r.value(2)
			reads(t, head+r.form(v), tag(n, v))
			fails(t, head, input, len(head))
			fails(t, head+"\xff", input, len(head))
			fails(t, head+"\x1c", input, len(head))
			fails(t, head+"\x00\x00", input, len(head)+1)
		}
	}
	reads(t, of("c1 c4 c2 41 05"), tag(1, tag(4, whole("5"))))
	reads(t, of("c0 c0 c0 80"), tag(0, tag(0, tag(0, list()))))
}

// P20.1: behind a tag 2 or 3 bytes must come, and nothing else.
func TestTagsOfNumbers(t *testing.T) {
	for _, n := range []uint64{2, 3} {
		for _, head := range heads(6, n) {
			fails(t, head, input, len(head))
			for first := range 256 {
				s := head + string([]byte{byte(first)})
				if first>>5 != 2 || first > 0x5b && first < 0x5f {
					fails(t, s, input, len(head))
					fails(t, s+"\x40\x00", input, len(head))
				} else {
					sameAsReference(t, s)
					sameAsReference(t, s+strings.Repeat("\x00", first&31))
				}
			}
			for _, s := range []string{"^ c2 40", "^ d8 02 40", "^ 60", "^ 7f ff", "^ f6", "^ 80", "^ ff", "^ 78", "^ 01", "5f ^ 60 ff", "5f ^", "5f 41 ^", "41 ^", "58 ^", "42 01 ^", "40 ^ 40", "5f ff ^ ff"} {
				ahead, behind, _ := strings.Cut(s, "^")
				fails(t, head+of(ahead+behind), input, len(head+of(ahead)))
			}
		}
	}
}

// P20.1: documents that were written down together with their values.
func TestMade(t *testing.T) {
	r := rule{2034}
	for i := range 30000 {
		x := r.made(1+i%6, i%3 == 0)
		answers(t, x.s, x.value, x.told)
		if t.Failed() {
			break
		}
	}
}
