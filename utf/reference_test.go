package utf_test

import (
	"slices"
	"strconv"
	"strings"
	"sync"
	"testing"
	"unicode/utf16"
	"unicode/utf8"

	"crucible/utf"
)

// The greatest and the least int.
const (
	most  = int(^uint(0) >> 1)
	least = -most - 1
)

// isPoint: is it a code point, as the document's section Words has them?
func isPoint(c int) bool { return c >= 0 && c <= 1114111 && (c < 55296 || c > 57343) }

// forms are the ways to write bits as bytes: the x are the bits, the highest first.
func forms() []string {
	return []string{"0xxxxxxx", "110xxxxx 10xxxxxx", "1110xxxx 10xxxxxx 10xxxxxx", "11110xxx 10xxxxxx 10xxxxxx 10xxxxxx"}
}

// fill writes a number's bits into a form; what is too long for it is cut off at the front.
func fill(form string, c int) string {
	bits := []byte(form)
	for i := len(bits) - 1; i >= 0; i-- {
		if bits[i] == 'x' {
			bits[i] = '0' + byte(c%2)
			c /= 2
		}
	}
	out := []byte{}
	for _, word := range strings.Fields(string(bits)) {
		b, err := strconv.ParseUint(word, 2, 8)
		if err != nil {
			panic(err)
		}
		out = append(out, byte(b))
	}
	return string(out)
}

// encoding is the encoding of a code point.
func encoding(c int) string {
	for i, end := range []int{128, 2048, 65536} {
		if c < end {
			return fill(forms()[i], c)
		}
	}
	return fill(forms()[3], c)
}

// points has every encoding with its code point.
type points map[string]rune

// everyPoint is made once, as it takes long.
var everyPoint = sync.OnceValue(func() points {
	out := make(points, 1112064)
	for c := range 1114112 {
		if isPoint(c) {
			out[encoding(c)] = rune(c)
		}
	}
	return out
})

// first: the code point that stands at a place, and how many bytes it has; no bytes, if none stands there.
func (p points) first(s string, at int) (rune, int) {
	for n := 1; at >= 0 && n <= 4 && n <= len(s)-at; n++ {
		if r, ok := p[s[at:at+n]]; ok {
			return r, n
		}
	}
	return 0, 0
}

// units are the code units of any string.
func (p points) units(s string) []int {
	var out []int
	for at := 0; at < len(s); {
		r, n := p.first(s, at)
		c := int(r)
		switch {
		case n == 0:
			out, n = append(out, 65536+int(s[at])), 1
		case c < 65536:
			out = append(out, c)
		default:
			out = append(out, 55296+(c-65536)/1024, 56320+(c-65536)%1024)
		}
		at += n
	}
	return out
}

// cmp is the order by code units.
func (p points) cmp(a, b string) int { return slices.Compare(p.units(a), p.units(b)) }

// steps are the code points of a string with their places, up to the first step that is no encoding, and where that is.
func (p points) steps(s string) (places []int, runes []rune, end int) {
	for end < len(s) {
		r, n := p.first(s, end)
		if n == 0 {
			break
		}
		places, runes = append(places, end), append(runes, r)
		end += n
	}
	return places, runes, end
}

// rule makes numbers that look like any, the same in each run.
type rule struct{ state uint64 }

func (r *rule) next() uint64 {
	r.state += 0x9e3779b97f4a7c15
	z := r.state
	z = (z ^ z>>30) * 0xbf58476d1ce4e5b9
	z = (z ^ z>>27) * 0x94d049bb133111eb
	return z ^ z>>31
}

func (r *rule) below(n int) int { return int(r.next() % uint64(n)) }

// point makes a code point of any of the lengths, those at the edges among them.
func (r *rule) point() rune {
	edge := edgePoints()
	for {
		c := r.below([]int{128, 2048, 65536, 1114112}[r.below(4)])
		if r.below(3) == 0 {
			c = edge[r.below(len(edge))]
		}
		if isPoint(c) {
			return rune(c)
		}
	}
}

// runes makes a list of up to n code points.
func (r *rule) runes(n int) []rune {
	out := make([]rune, r.below(n+1))
	for i := range out {
		out[i] = r.point()
	}
	return out
}

// text makes a text of up to n code points, by the reference.
func (r *rule) text(n int) string {
	out := ""
	for _, c := range r.runes(n) {
		out += encoding(int(c))
	}
	return out
}

// anyString makes texts, texts with a byte left out, put in or changed, pieces of encodings, and bytes of any kind.
func (r *rule) anyString(n int) string {
	s := []byte(r.text(n))
	at := r.below(len(s) + 1)
	switch r.below(6) {
	case 0:
		s = slices.Insert(s, at, r.wild())
	case 1:
		s = slices.Delete(s, at, min(at+1, len(s)))
	case 2:
		if at < len(s) {
			s[at] = r.wild()
		}
	case 3:
		s = s[at:]
	case 4:
		s = make([]byte, r.below(n+1))
		for i := range s {
			s[i] = r.wild()
		}
	}
	return string(s)
}

// wild makes a byte, often one at which something turns.
func (r *rule) wild() byte {
	if r.below(3) == 0 {
		return byte(r.next())
	}
	const turns = "\x00\x7f\x80\x8f\x90\x9f\xa0\xbf\xc0\xc1\xc2\xdf\xe0\xec\xed\xee\xef\xf0\xf3\xf4\xf5\xf7\xf8\xff"
	return turns[r.below(len(turns))]
}

// edgePoints are the code points on either side of where something turns.
func edgePoints() []int {
	return []int{0, 1, 97, 126, 127, 128, 129, 233, 2046, 2047, 2048, 2049, 55294, 55295, 57344, 57345, 64256, 65534, 65535, 65536, 65537, 66559, 66560, 66561, 128512, 1114110, 1114111}
}

// The reference itself, held against what is known and what the language has.
func TestReference(t *testing.T) {
	for c, want := range map[int]string{0: "\x00", 97: "a", 233: "\xc3\xa9", 8364: "\xe2\x82\xac", 128512: "\xf0\x9f\x98\x80", 1114111: "\xf4\x8f\xbf\xbf"} {
		if got := encoding(c); got != want {
			t.Errorf("the reference has % x for %d, want % x", got, c, want)
		}
	}
	p := everyPoint()
	if len(p) != 1112064 {
		t.Errorf("the reference has %d code points", len(p))
	}
	for s, r := range p {
		if !utf8.ValidString(s) || s != string(r) {
			t.Fatalf("the reference has % x for %d", s, r)
		}
	}
	r := rule{1}
	for range 2000 {
		s := r.text(20)
		want := []int{}
		for _, u := range utf16.Encode([]rune(s)) {
			want = append(want, int(u))
		}
		if got := p.units(s); !slices.Equal(got, want) {
			t.Errorf("the reference's units of %q are %v, want %v", s, got, want)
		}
		if _, runes, end := p.steps(s); string(runes) != s || end != len(s) {
			t.Errorf("the reference's steps of %q are %v and end at %d", s, runes, end)
		}
	}
	if got := p.units("a\x80\xed\xa0\xbd\xf0\x9f"); !slices.Equal(got, []int{97, 65664, 65773, 65696, 65725, 65776, 65695}) {
		t.Errorf("the reference's units are %v", got)
	}
}

// firstIs asks First of one place.
func firstIs(t *testing.T, s string, at int, r rune, n int) {
	t.Helper()
	if got, size, ok := utf.First(s, at); got != r || size != n || ok != (n > 0) {
		t.Errorf("First(% x, %d) = %d, %d, %v, want %d, %d, %v", s, at, got, size, ok, r, n, n > 0)
	}
}
