package utf_test

import (
	"slices"
	"testing"
	"unicode/utf16"

	"crucible/utf"
)

func unitsAre(t *testing.T, s string, want []uint16, isText bool) {
	t.Helper()
	if got, ok := utf.Units(s); !slices.Equal(got, want) || ok != isText || !ok && got != nil {
		t.Errorf("Units(% x) = %v, %v, want %v, %v", s, got, ok, want, isText)
	}
}

func fromUnitsIs(t *testing.T, l []uint16, want string, areUnits bool) {
	t.Helper()
	if got, ok := utf.FromUnits(l); got != want || ok != areUnits {
		t.Errorf("FromUnits(%v) = % x, %v, want % x, %v", l, got, ok, want, areUnits)
	}
}

// P9.4: the chapter's examples, and what is like them.
func TestUnitsKnown(t *testing.T) {
	unitsAre(t, "é😀", []uint16{233, 55357, 56832}, true)
	unitsAre(t, "", nil, true)
	unitsAre(t, "\x00\uFFFF\uE000\uD7FF", []uint16{0, 65535, 57344, 55295}, true)
	unitsAre(t, "\U00010000", []uint16{55296, 56320}, true)
	unitsAre(t, "\U000103ff\U00010400", []uint16{55296, 57343, 55297, 56320}, true)
	unitsAre(t, "\U0010ffff", []uint16{56319, 57343}, true)
	for _, s := range []string{"\xed\xa0\xbd", "\xed\xa0\xbd\xed\xb8\x80", "\x80", "a\xff", "\xffa", "é\xc3", "\xf4\x90\x80\x80", "\xc1\xbf"} {
		unitsAre(t, s, nil, false)
	}
}

// P9.4: the chapter's examples, and what is like them.
func TestFromUnitsKnown(t *testing.T) {
	fromUnitsIs(t, []uint16{55357, 56832}, "😀", true)
	fromUnitsIs(t, []uint16{0, 65535}, "\x00\xef\xbf\xbf", true)
	fromUnitsIs(t, nil, "", true)
	fromUnitsIs(t, []uint16{}, "", true)
	fromUnitsIs(t, []uint16{97, 55357, 56832, 98, 55296, 56320, 56319, 57343, 57344}, "a😀b\U00010000\U0010ffff\uE000", true)
	fromUnitsIs(t, []uint16{55295, 57344}, "\uD7FF\uE000", true)
	for _, l := range [][]uint16{
		{55357}, {56832, 55357}, {55357, 97},
		{55296}, {56319}, {56320}, {57343}, {97, 55357}, {97, 56832}, {56832, 97}, {55357, 55357}, {56832, 56832}, {55357, 55357, 56832}, {55357, 56832, 56832},
		{55357, 56832, 55357}, {97, 55357, 98, 56832}, {56319, 56319}, {56319, 57344}, {55296, 55295}, {55295, 56320}, {57344, 57343}, {55357, 0, 56832},
	} {
		fromUnitsIs(t, l, "", false)
	}
}

// P9.4: every code unit alone, and every pair of halves.
func TestEveryUnit(t *testing.T) {
	for u := range 65536 {
		if !isPoint(u) {
			fromUnitsIs(t, []uint16{uint16(u)}, "", false)
			continue
		}
		s := encoding(u)
		fromUnitsIs(t, []uint16{uint16(u)}, s, true)
		unitsAre(t, s, []uint16{uint16(u)}, true)
	}
	for c := 65536; c < 1114112; c++ {
		s, pair := encoding(c), []uint16{uint16(55296 + (c-65536)/1024), uint16(56320 + (c-65536)%1024)}
		if got, ok := utf.FromUnits(pair); got != s || !ok {
			t.Fatalf("FromUnits(%v) = % x, %v", pair, got, ok)
		}
		if got, ok := utf.Units(s); !slices.Equal(got, pair) || !ok {
			t.Fatalf("Units(% x) = %v, %v", s, got, ok)
		}
	}
}

// P9.4: any strings.
func TestUnitsAny(t *testing.T) {
	p, r := everyPoint(), rule{31}
	for range 20000 {
		s := r.anyString(12)
		var want []uint16
		_, _, end := p.steps(s)
		if end == len(s) {
			for _, u := range p.units(s) {
				want = append(want, uint16(u))
			}
		}
		unitsAre(t, s, want, end == len(s))
	}
}

// alone: does half a pair stand alone, as P9.4 says it?
func alone(l []uint16) bool {
	high := func(i int) bool { return i >= 0 && i < len(l) && l[i] >= 55296 && l[i] <= 56319 }
	low := func(i int) bool { return i >= 0 && i < len(l) && l[i] >= 56320 && l[i] <= 57343 }
	for i := range l {
		if high(i) && !low(i+1) || low(i) && !high(i-1) {
			return true
		}
	}
	return false
}

// P9.4: any lists of units, with many halves among them; held against the language's own reading where there is a text.
func TestFromUnitsAny(t *testing.T) {
	r := rule{33}
	texts := 0
	for range 50000 {
		l := make([]uint16, r.below(7))
		for i := range l {
			l[i] = uint16([]int{55296, 56320, 55295, 57344, 0, 65535, 56319, 57343}[r.below(8)])
			if r.below(2) == 0 {
				l[i] = uint16(55296 + r.below(2048))
			}
		}
		if alone(l) {
			fromUnitsIs(t, l, "", false)
			continue
		}
		texts++
		fromUnitsIs(t, l, string(utf16.Decode(l)), true)
	}
	if texts < 5000 {
		t.Errorf("only %d texts", texts)
	}
}
