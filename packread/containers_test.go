package packread_test

import (
	"strings"
	"testing"

	"crucible/api"
	"crucible/packread"
	"crucible/value"
)

// P23.1: lists in every family that has room.
func TestLists(t *testing.T) {
	lengths := []int{65534, 65535, 65536, 65537}
	for n := range 300 {
		lengths = append(lengths, n)
	}
	for _, n := range lengths {
		want := list()
		var b strings.Builder
		for i := range n {
			kid := pick(&rule{uint64(i)}, whole("7"), text("ab"), null, list(whole("0")))
			want.Kids = append(want.Kids, kid)
			b.WriteString((&rule{1}).form(kid))
		}
		s := b.String()
		for _, head := range heads(api.VList, n) {
			reads(t, head+s, want)
			fails(t, head+s+"\xff", input, len(head+s))
			if n > 0 {
				fails(t, head+s[:len(s)-1], input, len(head+s)-1)
			}
		}
		more := heads(api.VList, n+1)[0]
		fails(t, more+s, input, len(more+s))
		fails(t, more+s+"\xc1", input, len(more+s))
	}
	one := whole("1")
	for _, c := range []struct {
		s    string
		want api.Value
	}{
		{"91 90", list(list())}, {"92 dc 00 00 90", list(list(), list())}, {"92 91 c0 01", list(list(null), one)}, {"94 01 01 01 01", list(one, one, one, one)}, {"93 80 df 00 00 00 00 91 90", list(object(), object(), list(list()))}, {"92 c4 01 ff a2 61 61", list(raw("\xff"), text("aa"))},
	} {
		reads(t, of(c.s), c.want)
	}
}

// P23.1: maps in every family that has room, with as many pairs as the head says.
func TestMapLengths(t *testing.T) {
	lengths := []int{65535, 65536}
	for n := range 40 {
		lengths = append(lengths, n)
	}
	for _, n := range lengths {
		want := object()
		var b strings.Builder
		for i := range n {
			key := string([]byte{byte(i >> 14), byte(i >> 7 & 127), byte(i & 127)})
			want.Kids = append(want.Kids, text(key), null)
			b.WriteString("\xa3" + key + "\xc0")
		}
		s := b.String()
		for _, head := range heads(api.VMap, n) {
			reads(t, head+s, want)
			fails(t, head+s+"\xff", input, len(head+s))
			if n > 0 {
				fails(t, head+s[:len(s)-1], input, len(head+s)-1)
				fails(t, head+s[:len(s)-2], input, len(head+s)-2)
			}
		}
		more := heads(api.VMap, n+1)[0]
		fails(t, more+s, input, len(more+s))
		fails(t, more+s+"\x00", input, len(more+s)+1)
		fails(t, more+s+"\x00\xc1", input, len(more+s)+1)
	}
}

// P23.1: keys of every kind.
func TestMaps(t *testing.T) {
	one, two := whole("1"), whole("2")
	for _, c := range []struct {
		s    string
		want api.Value
	}{
		{"80", object()}, {"de 00 00", object()}, {"81 80 80", object(object(), object())}, {"82 02 01 01 02", object(one, two, two, one)}, {"df 00 00 00 01 01 02", object(one, two)},
		{"82 ff 01 00 02", object(whole("-1"), one, whole("0"), two)}, {"82 c3 01 c2 02", object(no, two, yes, one)}, {"82 c4 01 61 01 a1 61 02", object(text("a"), two, raw("a"), one)}, {"82 91 01 01 90 02", object(list(), two, list(one), one)}, {"82 81 01 01 01 80 02", object(object(), two, object(one, one), one)}, {"82 d4 01 00 01 d4 ff 00 02", object(extension(-1, "\x00"), two, extension(1, "\x00"), one)}, {"82 c0 01 c2 02", object(null, one, no, two)},
		{"83 ca 7f c0 00 00 01 ca 7f 80 00 00 02 ca ff 80 00 00 01", object(float(0xfff0000000000000), one, float(0x7ff0000000000000), two, float(0x7ff8000000000000), one)}, {"83 cb 3f b9 99 99 99 99 99 9a 01 00 02 ca 3f c0 00 00 01", object(whole("0"), two, float(0x3fb999999999999a), one, float(0x3ff8000000000000), one)},
	} {
		reads(t, of(c.s), c.want)
	}
	for _, s := range []string{"81 ^", "81 01 ^", "82 01 02 ^", "82 01 02 03 ^", "81 01 02 ^ 03", "de ^", "de 00 ^", "df 00 00 00 ^", "de 00 01 ^", "de 00 01 01 ^", "df ff ff ff ff 01 02 ^", "df ff ff ff ff 01 ^", "df 80 00 00 00 ^", "df 80 00 00 00 ^ c1", "df 80 00 00 01 01 02 ^", "dd 80 00 00 00 01 ^", "dd ff ff ff ff ^ c1", "dd 00 01 00 00 ^", "de 01 00 ^"} {
		failsAt(t, s)
	}
}

// rising are values that rise by the order of values.
func rising() []api.Value {
	return []api.Value{
		null, no, yes, wholeOf(bigOf(numberOf(-1e300))), whole("-9223372036854777856"), whole("-9223372036854775808"), whole("-4294967296"), whole("-2"), whole("-1"), whole("0"), whole("1"), whole("24"), whole("4294967295"), whole("4294967296"), whole("18446744073709551615"), whole("18446744073709551616"),
		float(0xfff0000000000000), float(0xbff8000000000000), float(0x8000000000000001), float(1), float(0x3fb999999999999a), float(0x3ff8000000000000), float(0x7ff0000000000000), float(0x7ff8000000000000),
		text(""), text("\x00"), text("a"), text("aa"), text("b"), text("é"), text("ﬀ"), text("😀"), raw(""), raw("a"), raw("aa"), raw("\xff"),
		list(), list(null), list(null, null), list(whole("1")), list(whole("2")), list(list()), object(), object(null, yes), object(whole("1"), null), object(whole("1"), whole("0"), whole("2"), whole("0")),
		extension(-128, ""), extension(-1, ""), extension(-1, "\x00"), extension(0, ""), extension(0, "a"), extension(0, "aa"), extension(0, "b"), extension(5, ""), extension(127, ""),
	}
}

// P23.1: the keys of a map rise, in whatever order and form they stood.
func TestKeyOrder(t *testing.T) {
	all := rising()
	for i := 1; i < len(all); i++ {
		if value.Compare(all[i-1], all[i]) >= 0 {
			t.Fatalf("%s is not below %s", show(all[i-1]), show(all[i]))
		}
	}
	r := rule{2331}
	for range 500 {
		want := object()
		for _, key := range all {
			if r.below(3) > 0 {
				want.Kids = append(want.Kids, key, r.value(1))
			}
		}
		reads(t, r.form(want), want)
		reads(t, r.form(list(want, want)), list(want, want))
	}
	for i, a := range all {
		for j, b := range all {
			s := "\x82" + r.form(a) + "\x01" + r.form(b) + "\x02"
			switch {
			case i < j:
				reads(t, s, object(a, whole("1"), b, whole("2")))
			case i > j:
				reads(t, s, object(b, whole("2"), a, whole("1")))
			default:
				_, behind, err := packread.Next(s, 1)
				if err != nil {
					t.Fatal(err)
				}
				fails(t, s, input, behind+1)
			}
		}
	}
}

// P23.1: a key that stands twice, ahead of or behind others, in the same form or another one.
func TestTwice(t *testing.T) {
	for _, s := range []string{
		"82 01 02 ^ 01 03", "82 01 02 ^ cc 01 03", "82 ca 3f 80 00 00 02 ^ 01 03", "82 ff 02 ^ d0 ff 03", "82 92 01 02 00 ^ 92 01 cc 02 00", "82 90 00 ^ dc 00 00 00", "82 80 00 ^ de 00 00 00", "82 a1 61 00 ^ d9 01 61 00", "82 a0 00 ^ db 00 00 00 00 00", "82 c4 00 00 ^ c5 00 00 00", "82 c4 03 01 02 03 00 ^ c6 00 00 00 03 01 02 03 00", "82 ca 7f c0 00 00 00 ^ ca 7f 80 00 01 00", "82 ca 7f c0 00 00 00 ^ cb ff ff ff ff ff ff ff ff 00", "82 ca 7f 80 00 00 00 ^ cb 7f f0 00 00 00 00 00 00 00", "82 d4 01 00 00 ^ c7 01 01 00 00", "82 c7 00 ff 00 ^ c8 00 00 ff 00", "82 c0 00 ^ c0 00", "82 c2 00 ^ c2 00", "82 ca 3f c0 00 00 00 ^ cb 3f f8 00 00 00 00 00 00 00", "82 82 01 02 03 04 00 ^ 82 03 04 01 02 00",
		"83 01 00 02 00 ^ 01 00", "83 01 00 02 00 ^ 02 00", "84 02 00 01 00 03 00 ^ 01 00", "84 01 00 02 00 ^ 02 00 01 00", "de 00 04 03 00 02 00 01 00 ^ 03 00", "85 05 00 01 00 04 00 02 00 ^ 04 00",
		// Only keys of the same map count.
		"82 01 81 01 00 ^ 01 00", "82 01 82 01 00 ^ 01 00 01 00", "92 81 01 00 82 01 00 ^ 01 00", "82 81 01 00 00 01 82 02 00 ^ 02 00", "82 82 01 00 ^ 01 00 00",
		// It is told when the key has been read whole: what is wrong behind it comes later, what is wrong in it comes ahead.
		"82 01 02 ^ 01 c1", "82 01 02 ^ 01", "82 01 02 ^ cc 01", "82 91 01 00 ^ 91 01", "82 91 01 00 91 ^", "82 91 01 00 91 ^ c1", "82 cd 01 00 00 cd 01 ^", "82 a1 61 00 a1 ^ ff", "83 01 00 82 02 00 ^ 02 00 00 01 00",
	} {
		failsAt(t, s)
		failsAt(t, "92 00"+s)
		failsAt(t, "de 00 01 00"+s)
		failsAt(t, "81"+s)
		failsAt(t, "df 00 00 00 03 00 00"+s)
	}
	for _, s := range []string{"82 01 02 02 01", "82 01 01 02 02", "82 00 00 ff 00", "82 a0 00 c4 00 00", "82 a1 61 00 c4 01 61 00", "82 01 00 a1 31 00", "82 01 00 91 01 00", "82 90 00 80 00", "82 81 01 00 00 81 01 01 00", "82 ca 3f c0 00 00 00 01 00", "82 ca 7f 7f ff ff 00 ca 7f 80 00 00 00", "82 ca 5f 80 00 00 00 cf ff ff ff ff ff ff ff ff 00", "82 cb 3f b9 99 99 99 99 99 9a 00 ca 3d cc cc cd 00", "81 01 81 01 81 01 01", "92 81 01 01 81 01 01", "82 d4 00 01 00 d4 01 01 00", "82 d4 00 01 00 d5 00 01 01 00", "82 d4 00 01 00 c4 01 01 00", "82 c2 00 00 00"} {
		v, err := packread.Read(of(s))
		if err != nil {
			t.Errorf("Read(%s): %v", s, err)
		}
		mayBe(t, s, v)
		sameAsReference(t, of(s))
	}
}

// P23.1: a map of many keys, however they stand, and one of them again.
func TestManyKeys(t *testing.T) {
	const many = 20000
	keys := make([]int, many)
	want := object()
	for i := range keys {
		keys[i] = i
		want.Kids = append(want.Kids, text(string([]byte{byte(i >> 14), byte(i >> 7 & 127), byte(i & 127)})), null)
	}
	r := rule{2332}
	for range 6 {
		var b strings.Builder
		at := map[int]int{}
		for _, key := range keys {
			at[key] = b.Len()
			b.WriteString("\xa3" + want.Kids[2*key].Text + "\xc0")
		}
		s := b.String()
		reads(t, inBytes(0xde, 2, many)+s, want)
		for _, key := range []int{0, 1, many / 2, many - 1, r.below(many)} {
			again := s[at[key] : at[key]+4]
			fails(t, inBytes(0xde, 2, many+1)+s+again+"\xc0", input, 3+len(s))
			fails(t, inBytes(0xdf, 4, 1<<32-1)+s[:at[key]+5]+again+s[at[key]+5:], input, 5+at[key]+5)
		}
		shuffle(&r, keys)
	}
}
