package utf_test

import (
	"slices"
	"testing"

	"crucible/utf"
)

func runesAre(t *testing.T, s string, want []rune, isText bool) {
	t.Helper()
	if got, ok := utf.Runes(s); !slices.Equal(got, want) || ok != isText || !ok && got != nil {
		t.Errorf("Runes(% x) = %v, %v, want %v, %v", s, got, ok, want, isText)
	}
}

func textIs(t *testing.T, l []rune, want string, arePoints bool) {
	t.Helper()
	if got, ok := utf.Text(l); got != want || ok != arePoints {
		t.Errorf("Text(%v) = % x, %v, want % x, %v", l, got, ok, want, arePoints)
	}
}

// P9.3: the chapter's examples, and what is like them.
func TestRunesKnown(t *testing.T) {
	runesAre(t, "aé😀", []rune{97, 233, 128512}, true)
	runesAre(t, "", nil, true)
	runesAre(t, "\x00", []rune{0}, true)
	runesAre(t, "\uFFFD", []rune{0xfffd}, true)
	for _, s := range []string{"\x80", "a\x80", "\x80a", "aé\xf0\x9f\x98", "\xed\xa0\xbd\xed\xb8\x80", "\xc0\x80", "\xf4\x90\x80\x80", "😀\xff"} {
		runesAre(t, s, nil, false)
	}
}

// P9.3: the chapter's examples, and what is like them.
func TestTextKnown(t *testing.T) {
	textIs(t, []rune{97, 1114111}, "a\xf4\x8f\xbf\xbf", true)
	textIs(t, nil, "", true)
	textIs(t, []rune{}, "", true)
	for c, want := range map[rune]string{
		0: "\x00", 127: "\x7f", 128: "\xc2\x80", 2047: "\xdf\xbf", 2048: "\xe0\xa0\x80", 55295: "\xed\x9f\xbf", 57344: "\xee\x80\x80",
		65533: "\xef\xbf\xbd", 65535: "\xef\xbf\xbf", 65536: "\xf0\x90\x80\x80", 1114111: "\xf4\x8f\xbf\xbf",
	} {
		textIs(t, []rune{c}, want, true)
		textIs(t, []rune{c, c, 97}, want+want+"a", true)
	}
	for _, c := range []rune{55296, 56319, 56320, 57343, -1, -2, -97, -1 << 31, 1114112, 1114113, 1 << 21, 1<<21 + 97, 1<<31 - 1} {
		for _, l := range [][]rune{{c}, {97, c}, {c, 97}, {128512, c, 233}, {c, c}} {
			textIs(t, l, "", false)
		}
	}
	textIs(t, []rune{55357, 56832}, "", false)
}

// P9.3: every code point, and every number beside them.
func TestTextEveryPoint(t *testing.T) {
	for c := -3000; c < 1117000; c++ {
		if !isPoint(c) {
			if got, ok := utf.Text([]rune{rune(c)}); got != "" || ok {
				t.Fatalf("Text(%d) = % x, %v", c, got, ok)
			}
			continue
		}
		if got, ok := utf.Text([]rune{rune(c)}); got != encoding(c) || !ok {
			t.Fatalf("Text(%d) = % x, %v", c, got, ok)
		}
	}
}

// P9.3: any strings, any lists.
func TestRunesAny(t *testing.T) {
	p, r := everyPoint(), rule{21}
	for range 20000 {
		s := r.anyString(12)
		_, runes, end := p.steps(s)
		if end < len(s) {
			runes = nil
		}
		runesAre(t, s, runes, end == len(s))

		l := r.runes(12)
		want := ""
		for _, c := range l {
			want += encoding(int(c))
		}
		textIs(t, l, want, true)
		if len(l) > 0 {
			l[r.below(len(l))] = []rune{55296 + rune(r.below(2048)), -1 - rune(r.below(1<<31)), 1114112 + rune(r.below(1<<30))}[r.below(3)]
			textIs(t, l, "", false)
		}
	}
}
