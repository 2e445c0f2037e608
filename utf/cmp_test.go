package utf_test

import (
	"slices"
	"strings"
	"testing"

	"crucible/utf"
)

func cmpIs(t *testing.T, a, b string, want int) {
	t.Helper()
	if got := utf.Cmp(a, b); got != want {
		t.Errorf("Cmp(% x, % x) = %d, want %d", a, b, got, want)
	}
	if got := utf.Cmp(b, a); got != -want {
		t.Errorf("Cmp(% x, % x) = %d, want %d", b, a, got, -want)
	}
}

// P9.5: the chapter's examples, and what is like them.
func TestCmpKnown(t *testing.T) {
	cmpIs(t, "é", "😀", -1)
	cmpIs(t, "😀", "ﬀ", -1)
	cmpIs(t, "a", "ab", -1)
	cmpIs(t, "b", "ab", 1)
	cmpIs(t, "", "", 0)
	cmpIs(t, "\xff", "😀", 1)
	cmpIs(t, "\x80", "\uFFFF", 1)
	cmpIs(t, "\x80", "\xff", -1)
	cmpIs(t, "\xed\xa0\xbd\xed\xb8\x80", "😀", 1)
	for _, c := range []struct {
		a, b string
		want int
	}{
		// A beginning against the longer one, noughts too.
		{"", "\x00", -1}, {"\x00", "\x00\x00", -1}, {"", "\x80", -1}, {"é", "é\x00", -1}, {"😀", "😀\x80", -1}, {"\xff", "\xffa", -1},
		// Equal.
		{"a", "a", 0}, {"é😀", "é😀", 0}, {"\xff\x80", "\xff\x80", 0}, {"\xe2\x82", "\xe2\x82", 0},
		// On either side of 65536, and of the surrogates.
		{"\uD7FF", "\U00010000", -1}, {"\uE000", "\U00010000", 1}, {"\uE000", "\U0010ffff", 1}, {"\uFFFF", "\U00010000", 1}, {"\uFFFF", "\U0010ffff", 1}, {"\uD7FF", "\uE000", -1},
		// Both above 65535: by the first half, then by the second.
		{"\U00010000", "\U00010001", -1}, {"\U000103ff", "\U00010400", -1}, {"😀", "😁", -1}, {"😀b", "😁a", -1},
		// Behind a common beginning.
		{"aé\uFFFF", "aé\U00010000", 1}, {"\xff\uE000", "\xff😀", 1}, {"😀a", "😀b", -1}, {"aab", "aac", -1},
		// What is no text: a byte that begins none is above every code point, and by its number.
		{"\xc3", "é", 1}, {"\xc3", "\U0010ffff", 1}, {"\xe2\x82", "€", 1}, {"\xe2\x82", "\xe2\x83", -1}, {"\xf0\x9f\x98", "😀", 1}, {"\xfe", "\xff", -1}, {"\xc3\xa9", "\xc3a", -1},
		{"\xed\xa0\xbd", "\xed\xb8\x80", -1}, {"\xc0\x80", "\x00", 1}, {"\x80", "\x81", -1}, {"\xf4\x90\x80\x80", "\U0010ffff", 1}, {"\xf4\x90\x80\x80", "\xff", -1},
	} {
		cmpIs(t, c.a, c.b, c.want)
	}
}

// P9.5: any two strings, often with a common beginning that ends within an encoding.
func TestCmpAny(t *testing.T) {
	p, r := everyPoint(), rule{41}
	seen := map[int]int{}
	for range 60000 {
		a, b := r.anyString(5), r.anyString(5)
		switch r.below(4) {
		case 0:
			b = a[:r.below(len(a)+1)] + b
		case 1:
			b = a + b
		case 2:
			if at := r.below(len(a) + 1); at < len(a) {
				b = a[:at] + string([]byte{a[at] + byte(r.below(3)) - 1}) + a[at+1:]
			}
		}
		want := p.cmp(a, b)
		seen[want]++
		cmpIs(t, a, b, want)
	}
	if seen[0] < 1000 || seen[1] < 1000 || seen[-1] < 1000 {
		t.Errorf("too few of one kind: %v", seen)
	}
}

// P9.5: every code point against the next one, and against those at the edges.
func TestCmpEveryPoint(t *testing.T) {
	key := func(c int) int { // where it stands in the order by code units
		if c > 65535 {
			return 55296<<16 + c
		}
		return c << 16
	}
	for c := range 1114111 {
		for _, d := range []int{c + 1, 55295, 57344, 65535, 65536, 1114111} {
			if !isPoint(c) || !isPoint(d) || c == d {
				continue
			}
			want := -1
			if key(c) > key(d) {
				want = 1
			}
			if got := utf.Cmp(string(rune(c)), string(rune(d))); got != want {
				t.Fatalf("Cmp of %d and %d = %d", c, d, got)
			}
		}
	}
}

// P9.7: of texts the order of their bytes, but where one from 57344 to 65535 meets one above 65535.
func TestCmpOfTexts(t *testing.T) {
	r := rule{43}
	turned := 0
	for range 60000 {
		a, b := r.text(4), r.text(4)
		if r.below(2) == 0 {
			common := r.text(3)
			a, b = common+a, common+b
		}
		want := strings.Compare(a, b)
		x, _ := utf.Runes(a)
		y, _ := utf.Runes(b)
		for i := range min(len(x), len(y)) {
			if x[i] == y[i] {
				continue
			}
			if low, high := min(x[i], y[i]), max(x[i], y[i]); low >= 57344 && low <= 65535 && high > 65535 {
				turned++
				want = -want
			}
			break
		}
		cmpIs(t, a, b, want)
	}
	if turned < 1000 {
		t.Errorf("only %d of them turned round", turned)
	}
}

// P9.7: an order of all strings: of any three, and 0 just where they are the same.
func TestCmpIsAnOrder(t *testing.T) {
	r := rule{45}
	all := []string{"", "\x00", "a", "é", "\uD7FF", "\uE000", "\uFFFF", "\U00010000", "\U0010ffff", "\x80", "\xc3", "\xed\xa0\xbd", "\xf0\x9f\x98", "\xff"}
	for range 120 {
		all = append(all, r.anyString(3))
	}
	for _, a := range all {
		for _, b := range all {
			ab := utf.Cmp(a, b)
			if (ab == 0) != (a == b) || ab != -utf.Cmp(b, a) {
				t.Errorf("Cmp(% x, % x) = %d, the other way round %d", a, b, ab, utf.Cmp(b, a))
			}
			for _, c := range all {
				if ab <= 0 && utf.Cmp(b, c) <= 0 && utf.Cmp(a, c) > 0 {
					t.Errorf("no order: % x, % x, % x", a, b, c)
				}
			}
		}
	}
	p := everyPoint()
	sorted := slices.Clone(all)
	slices.SortFunc(sorted, utf.Cmp)
	slices.SortFunc(all, p.cmp)
	if !slices.Equal(sorted, all) {
		t.Errorf("sorted otherwise than by the code units: % x, want % x", sorted, all)
	}
}
