package quot_test

import (
	"fmt"
	"strings"
	"testing"

	"crucible/api"
	"crucible/nat"
	"crucible/quot"
)

// P2.4

func TestDigits(t *testing.T) {
	for _, c := range []struct {
		a    list
		want string
	}{
		{nil, "0"}, {list{0, 0}, "0"}, {list{7, 0}, "7"}, {list{9}, "9"}, {list{10}, "10"}, {list{999999999}, "999999999"}, {list{1000000000}, "1000000000"},
		{list{top}, "4294967295"}, {list{0, 1}, "4294967296"}, {list{top, top}, "18446744073709551615"}, {list{0, 0, 1}, "18446744073709551616"}, {list{0, 0, 1, 0, 0}, "18446744073709551616"},
		{list{0x89e80000, 0x8ac72304}, "10000000000000000000"}, {list{0, 0, 0, 1}, "79228162514264337593543950336"},
	} {
		if got := quot.Digits(c.a); got != c.want {
			t.Errorf("Digits(%x) = %q, want %q", c.a, got, c.want)
		}
	}
	for _, a := range samples() {
		if got := quot.Digits(a); got != told(a) {
			t.Errorf("Digits(%x) = %q, want %q", a, got, told(a))
		}
	}
}

func TestDigitsLong(t *testing.T) {
	r := rule{19}
	for size := range 400 {
		a := r.list(size)
		if got := quot.Digits(a); got != told(a) {
			t.Errorf("Digits of %d limbs is another number", size)
		}
	}
	for _, size := range []int{1000, 2047, 4000, 6000} {
		a := r.list(size)
		a[size-1] |= 1
		text := told(a)
		if got := quot.Digits(a); got != text {
			t.Errorf("Digits of %d limbs is another number", size)
		}
		got, ok := quot.Read(text)
		wantList(t, fmt.Sprintf("Read of %d digits", len(text)), got, a)
		if !ok {
			t.Errorf("Read of %d digits says false", len(text))
		}
	}
}

// texts are numbers of so many digits: the lowest, the highest, ones with noughts in the middle, a mixed one.
func texts(size int) []string {
	var mixed strings.Builder
	r := rule{uint64(size)}
	mixed.WriteByte(byte('1' + r.next()%9))
	for range size - 1 {
		mixed.WriteByte(byte('0' + r.next()%10))
	}
	out := []string{"1" + strings.Repeat("0", size-1), strings.Repeat("9", size), mixed.String()}
	if size > 1 {
		out = append(out, "1"+strings.Repeat("0", size-2)+"7", "9"+strings.Repeat("0", size/2)+strings.Repeat("4", size-1-size/2))
	}
	return out
}

func TestReadAndTellAgain(t *testing.T) {
	sizes := []int{200, 287, 288, 289, 575, 576, 577, 585, 1151, 1152, 1153, 1161, 1727, 1728, 1729, 2303, 2304, 2305, 2313, 4608, 4609, 9216, 9217, 10000}
	for size := range 60 {
		sizes = append(sizes, size+1)
	}
	for _, size := range sizes {
		for _, s := range texts(size) {
			a, ok := quot.Read(s)
			wantList(t, fmt.Sprintf("Read of %d digits, %.20q ..", size, s), a, read(s))
			if got := quot.Digits(a); !ok || got != s {
				t.Errorf("%d digits, %.20q .., read and told again: %.20q .., %v", size, s, got, ok)
			}
		}
	}
	for _, c := range []struct {
		s string
		a list
	}{{"0", nil}, {"1", list{1}}, {"4294967295", list{top}}, {"4294967296", list{0, 1}}, {"18446744073709551616", list{0, 0, 1}}} {
		a, ok := quot.Read(c.s)
		wantList(t, fmt.Sprintf("Read(%q)", c.s), a, c.a)
		if !ok {
			t.Errorf("Read(%q) says false", c.s)
		}
	}
}

func TestReadNone(t *testing.T) {
	for _, s := range []string{
		"", "00", "01", "007", "000000000000000000001", "+1", "-1", "+0", "-0", " 1", "1 ", " ", "1 0", "\t1", "1\n", "+", "-", "a", "1a", "a1", "0x1", "0b1", "1_000", "1,000", "1.0", "1.", ".1",
		"1e3", "1\x00", "\x001", "/", ":", "1/", "1:", "9:9", "\xff", "1\xb1", "\u0661", "1\u0662", "\uff11", "Inf", "nil",
		strings.Repeat("0", 1000), "0" + strings.Repeat("9", 5000), " " + strings.Repeat("9", 5000),
	} {
		a, ok := quot.Read(s)
		wantNone(t, fmt.Sprintf("Read(%.30q)", s), a, ok)
	}
	for _, wrong := range []string{" ", "/", ":", "+", "-", "a", "\x00", "\xff"} {
		for _, size := range []int{1, 9, 10, 18, 19, 600, 1200} {
			right := strings.Repeat("8", size)
			for at := range size {
				s := right[:at] + wrong + right[at+1:]
				a, ok := quot.Read(s)
				wantNone(t, fmt.Sprintf("Read of %d digits with %q at %d", size, wrong, at), a, ok)
			}
		}
	}
}

// lead are the first digits of 2 to the power of 32 times MaxLimbs, which has digitsThere of them and is the lowest number with more limbs.
const (
	lead        = "4264487423559527872432728926"
	leadAbove   = "4264487423559527872432728927"
	digitsThere = 2525223
)

func TestReadMaxLimbs(t *testing.T) {
	s := lead + strings.Repeat("0", digitsThere-len(lead)-5) + "98765"
	a, ok := quot.Read(s)
	if !ok || len(a) != api.MaxLimbs || cap(a) != len(a) {
		t.Fatalf("Read just below the limit: %d limbs, %v", len(a), ok)
	}
	for _, d := range []uint32{7, 1000000007, 4294967291} {
		if _, r, _ := nat.Small(a, d); r != rest(s, d) {
			t.Errorf("Read just below the limit leaves %d, divided by %d, want %d", r, d, rest(s, d))
		}
	}
	if quot.Digits(a) != s {
		t.Errorf("Digits of MaxLimbs limbs are others")
	}
}

func rest(s string, d uint32) uint32 {
	var r uint64
	for _, c := range []byte(s) {
		r = (r*10 + uint64(c-'0')) % uint64(d)
	}
	return uint32(r)
}

func TestReadBeyondMaxLimbs(t *testing.T) {
	a, ok := quot.Read(leadAbove + strings.Repeat("0", digitsThere-len(lead)))
	wantNone(t, "Read just above the limit", a, ok)
	for _, more := range []int{1, 2, 1000, 1 << 24} {
		a, ok = quot.Read("1" + strings.Repeat("0", digitsThere-1+more))
		wantNone(t, fmt.Sprintf("Read of %d digits too many", more), a, ok)
	}
	a, ok = quot.Read(strings.Repeat("9", digitsThere) + "x")
	wantNone(t, "Read of a wrong byte at the end of a long text", a, ok)
}

// P2.5

func TestBytes(t *testing.T) {
	for _, c := range []struct {
		a    list
		want string
	}{
		{nil, ""}, {list{0, 0}, ""}, {list{1}, "\x01"}, {list{1, 0, 0}, "\x01"}, {list{255}, "\xff"}, {list{256}, "\x01\x00"}, {list{65536}, "\x01\x00\x00"}, {list{0x1020304}, "\x01\x02\x03\x04"},
		{list{top}, "\xff\xff\xff\xff"}, {list{0, 1}, "\x01\x00\x00\x00\x00"}, {list{0x1020304, 0xa0b, 0}, "\x0a\x0b\x01\x02\x03\x04"}, {list{0, 0, high}, "\x80" + strings.Repeat("\x00", 11)},
	} {
		if got := quot.Bytes(c.a); got != c.want {
			t.Errorf("Bytes(%x) = %x, want %x", c.a, got, c.want)
		}
	}
	r := rule{23}
	for _, a := range append(samples(), r.list(77), r.list(1000), r.list(5000)) {
		if got := quot.Bytes(a); got != bytesOf(a) {
			t.Errorf("Bytes(%x) = %x, want %x", a, got, bytesOf(a))
		}
	}
}

func TestFromBytes(t *testing.T) {
	for _, c := range []struct {
		s    string
		want list
	}{
		{"", nil}, {"\x00", nil}, {"\x00\x00", nil}, {strings.Repeat("\x00", 9), nil}, {"\x01", list{1}}, {"\x00\x01\x00", list{256}}, {"\x01\x02\x03\x04", list{0x1020304}},
		{"\x01\x00\x00\x00\x00", list{0, 1}}, {"\x00\x00\x00\x00\x05", list{5}}, {"\xff\xff\xff\xff\xff", list{top, 255}}, {"0", list{48}}, {"\x00ab\x00c\xff", list{0x620063ff, 0x61}},
	} {
		got, ok := quot.FromBytes(c.s)
		wantList(t, fmt.Sprintf("FromBytes(%x)", c.s), got, c.want)
		if !ok {
			t.Errorf("FromBytes(%x) says false", c.s)
		}
	}
	for _, a := range samples() {
		for _, ahead := range []string{"", "\x00", "\x00\x00\x00\x00\x00"} {
			got, ok := quot.FromBytes(ahead + bytesOf(a))
			wantList(t, fmt.Sprintf("FromBytes of %x and %x", ahead, bytesOf(a)), got, nat.Norm(a))
			if !ok {
				t.Errorf("FromBytes of %x and %x says false", ahead, bytesOf(a))
			}
		}
	}
}

func TestFromBytesLimit(t *testing.T) {
	const most = 4 * api.MaxLimbs
	for _, s := range []string{
		"\x01" + strings.Repeat("\x00", most-1), strings.Repeat("\xff", most), "\x07" + strings.Repeat("\x00", most-4),
		"\x00" + strings.Repeat("\xff", most), strings.Repeat("\x00", 2*most) + strings.Repeat("\xff", most),
	} {
		a, ok := quot.FromBytes(s)
		if !ok || len(a) != api.MaxLimbs || cap(a) != len(a) || quot.Bytes(a) != strings.TrimLeft(s, "\x00") {
			t.Errorf("FromBytes of %d bytes, %.3x ..: %d limbs, %v", len(s), s, len(a), ok)
		}
	}
	if a, ok := quot.FromBytes(strings.Repeat("\x00", 2*most)); !ok || len(a) != 0 {
		t.Errorf("FromBytes of many bytes 0: %d limbs, %v", len(a), ok)
	}
	for _, s := range []string{
		"\x01" + strings.Repeat("\x00", most), strings.Repeat("\xff", most+1), "\x00\x01" + strings.Repeat("\x00", most), strings.Repeat("\xff", 2*most),
	} {
		a, ok := quot.FromBytes(s)
		wantNone(t, fmt.Sprintf("FromBytes of %d bytes, %.3x ..", len(s), s), a, ok)
	}
}
