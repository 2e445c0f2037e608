package escape_test

import (
	"errors"
	"fmt"
	"slices"
	"strings"
	"sync"
	"testing"
	"unicode/utf16"

	"crucible/api"
	"crucible/escape"
)

// The greatest and the least int.
const (
	most  = int(^uint(0) >> 1)
	least = -most - 1
)

// pieces are all pieces but pairs, with letters among digits small, and what they say; of pairs the halves; and all beginnings of pieces.
type pieces struct {
	say         map[string]string
	first, last map[string]rune
	begun       map[string]bool
}

func isPoint(c int) bool { return c >= 0 && c <= 1114111 && (c < 55296 || c > 57343) }

// add takes in a piece with its beginnings.
func (p pieces) add(piece, says string) {
	p.say[piece] = says
	p.begin(piece)
}

func (p pieces) begin(piece string) {
	for n := range len(piece) {
		p.begun[piece[:n]] = true
	}
}

// allPieces is made once, as it takes long.
var allPieces = sync.OnceValue(func() pieces {
	p := pieces{map[string]string{}, map[string]rune{}, map[string]rune{}, map[string]bool{}}
	for c := 32; c <= 1114111; c++ {
		if isPoint(c) && c != 34 && c != 92 {
			p.add(string(rune(c)), string(rune(c)))
		}
	}
	for letter, says := range map[string]string{"\"": "\"", "\\": "\\", "/": "/", "b": "\x08", "f": "\x0c", "n": "\x0a", "r": "\x0d", "t": "\x09"} {
		p.add("\\"+letter, says)
	}
	for c := range 65536 {
		piece := fmt.Sprintf("\\u%04x", c)
		switch {
		case isPoint(c):
			p.add(piece, string(rune(c)))
		case c < 56320:
			p.first[piece] = rune(c)
		default:
			p.last[piece] = rune(c)
		}
	}
	for first := range p.first {
		p.begin(first)
		p.begun[first] = true
		for last := range p.last {
			// Those of one last digit have the same beginnings.
			if strings.HasSuffix(last, "0") {
				p.begin(first + last)
			}
		}
	}
	return p
})

// small makes the letters among the digits of a piece small.
func small(s string) string {
	out := []byte(s)
	for _, from := range []int{0, 6} {
		if strings.HasPrefix(s[min(from, len(s)):], "\\u") {
			digits := out[from+2 : min(from+6, len(out))]
			copy(digits, strings.ToLower(string(digits)))
		}
	}
	return string(out)
}

// piece is the piece that s begins with: what it says, and how many bytes it has; none, if it begins with none.
func (p pieces) piece(s string) (string, int) {
	for n := 1; n <= min(12, len(s)); n++ {
		t := small(s[:n])
		if says, ok := p.say[t]; ok {
			return says, n
		}
		if n == 12 {
			high, isFirst := p.first[t[:6]]
			low, isLast := p.last[t[6:]]
			if isFirst && isLast {
				return string(utf16.DecodeRune(high, low)), n
			}
		}
	}
	return "", 0
}

// literal: the text of the literal that s begins with, and how many bytes it has; none, and how many bytes of s are a beginning of one, if it begins with none.
func (p pieces) literal(s string) (text string, n int, ok bool) {
	if s == "" || s[0] != '"' {
		return "", 0, false
	}
	var out strings.Builder
	at := 1
	for at < len(s) && s[at] != '"' {
		says, n := p.piece(s[at:])
		if n == 0 {
			for at+n < len(s) && p.begun[small(s[at:at+n+1])] {
				n++
			}
			return "", at + n, false
		}
		out.WriteString(says)
		at += n
	}
	if at == len(s) {
		return "", at, false
	}
	return out.String(), at + 1, true
}

// isInput: is it ErrInput and no other, at that place and with no Path?
func isInput(err error, at int) bool {
	var fault *api.Fault
	return just(err, api.ErrInput) && errors.As(err, &fault) && fault.At == at && fault.Path == ""
}

// just: is it this one of api's errors and no other?
func just(err, want error) bool {
	for _, other := range []error{api.ErrArg, api.ErrNil, api.ErrInput, api.ErrRep, api.ErrLimit, api.ErrNone, api.ErrBusy, api.ErrHandle, api.ErrKey, api.ErrStopped, api.ErrScript} {
		if errors.Is(err, other) != (other == want) {
			return false
		}
	}
	return true
}

func scanIs(t *testing.T, s string, at int, text string, next int) {
	t.Helper()
	if got, n, err := escape.Scan(s, at); got != text || n != next || err != nil {
		t.Errorf("Scan(%q, %d) = %q, %d, %v, want %q, %d", s, at, got, n, err, text, next)
	}
}

func scanFails(t *testing.T, s string, at int, place int) {
	t.Helper()
	if got, n, err := escape.Scan(s, at); got != "" || n != 0 || !isInput(err, place) {
		t.Errorf("Scan(%q, %d) = %q, %d, %v, want ErrInput at %d", s, at, got, n, err, place)
	}
}

func unquoteIs(t *testing.T, s, text string) {
	t.Helper()
	if got, err := escape.Unquote(s); got != text || err != nil {
		t.Errorf("Unquote(%q) = %q, %v, want %q", s, got, err, text)
	}
}

func unquoteFails(t *testing.T, s string, place int) {
	t.Helper()
	if got, err := escape.Unquote(s); got != "" || !isInput(err, place) {
		t.Errorf("Unquote(%q) = %q, %v, want ErrInput at %d", s, got, err, place)
	}
}

// sameAsReference asks Scan of one place and Unquote of what stands from there on.
func sameAsReference(t *testing.T, s string, at int) {
	t.Helper()
	text, n, ok := allPieces().literal(s[at:])
	if !ok {
		scanFails(t, s, at, at+n)
		unquoteFails(t, s[at:], n)
		return
	}
	scanIs(t, s, at, text, at+n)
	if at+n == len(s) {
		unquoteIs(t, s[at:], text)
	} else {
		unquoteFails(t, s[at:], n)
	}
}

// rule makes numbers that look like any, the same in each run.
type rule struct{ state uint64 }

func (r *rule) next() uint64 {
	r.state += 0x9e3779b97f4a7c15
	z := r.state
	z = (z ^ z>>30) * 0xbf58476d1ce4e5b9
	z = (z ^ z>>27) * 0x94d049bb133111eb
	return z ^ z>>31
}

func (r *rule) below(n int) int { return int(r.next() % uint64(n)) }

// edgePoints are the code points on either side of where something turns.
func edgePoints() []rune {
	return []rune{0, 8, 9, 10, 11, 12, 13, 14, 31, 32, 33, 34, 35, 46, 47, 48, 91, 92, 93, 126, 127, 128, 233, 2047, 2048, 8232, 55295, 57344, 65533, 65535, 65536, 65537, 128512, 1114110, 1114111}
}

// point makes a code point of any of the lengths, those at the edges among them.
func (r *rule) point() rune {
	edge := edgePoints()
	for {
		c := r.below([]int{32, 128, 2048, 65536, 1114112}[r.below(5)])
		if r.below(3) == 0 {
			return edge[r.below(len(edge))]
		}
		if isPoint(c) {
			return rune(c)
		}
	}
}

// text makes a text of up to n code points.
func (r *rule) text(n int) string {
	out := []rune{}
	for range r.below(n + 1) {
		out = append(out, r.point())
	}
	return string(out)
}

// saying makes one of the pieces that say a code point.
func (r *rule) saying(c rune) string {
	ways := []string{r.units(c)}
	if c >= 32 && c != '"' && c != '\\' {
		ways = append(ways, string(c))
	}
	if at := slices.Index([]rune{'"', '\\', '/', 8, 12, 10, 13, 9}, c); at >= 0 {
		ways = append(ways, "\\"+"\"\\/bfnrt"[at:at+1])
	}
	return ways[r.below(len(ways))]
}

// units says a code point by \u, each letter among the digits of either case.
func (r *rule) units(c rune) string {
	out := ""
	for _, unit := range utf16.Encode([]rune{c}) {
		out += "\\u"
		for _, digit := range fmt.Sprintf("%04x", unit) {
			if r.below(2) == 0 {
				out += strings.ToUpper(string(digit))
			} else {
				out += string(digit)
			}
		}
	}
	return out
}

// literal makes one of the literals of a text.
func (r *rule) literal(text string) string {
	var out strings.Builder
	out.WriteByte('"')
	for _, c := range text {
		out.WriteString(r.saying(c))
	}
	out.WriteByte('"')
	return out.String()
}

// wild makes a byte, often one at which something turns.
func (r *rule) wild() byte {
	if r.below(4) == 0 {
		return byte(r.next())
	}
	return turns[r.below(len(turns))]
}

// turns are the bytes on either side of where something turns.
const turns = "\x00\x0a\x1f !\"#/0789:@ABCDEFG[\\]`abcdefgnrtuv\x7f\x80\x8f\x90\x9f\xa0\xbf\xc0\xc1\xc2\xdf\xe0\xe1\xec\xed\xee\xef\xf0\xf1\xf3\xf4\xf5\xf7\xf8\xff"

// anyString makes literals, such with a byte left out, put in or changed, pieces of them, and bytes of any kind.
func (r *rule) anyString(n int) string {
	s := []byte(r.literal(r.text(n)))
	for range 1 + r.below(2) {
		at := r.below(len(s) + 1)
		switch r.below(7) {
		case 0:
			s = slices.Insert(s, at, r.wild())
		case 1:
			s = slices.Delete(s, at, min(at+1, len(s)))
		case 2:
			if at < len(s) {
				s[at] = r.wild()
			}
		case 3:
			s = s[:at]
		case 4:
			s = append(s, r.literal(r.text(n))...)
		case 5:
			s = []byte{'"'}
			for range r.below(n + 1) {
				s = append(s, r.wild())
			}
		}
	}
	return string(s)
}

// The reference itself, held against what is known.
func TestReference(t *testing.T) {
	p := allPieces()
	// 1112064 code points without 32 below a space, a quote and a backslash; 8 letters; 65536 numbers without 2048.
	if len(p.say) != 1112064-32-2+8+65536-2048 || len(p.first) != 1024 || len(p.last) != 1024 {
		t.Errorf("the reference has %d, %d, %d pieces", len(p.say), len(p.first), len(p.last))
	}
	for _, c := range []struct {
		s, text string
		n       int
		ok      bool
	}{
		{`"\u00E9\ud83D\uDe00\/"x`, "é😀/", 22, true}, {`""`, "", 2, true}, {`"a`, "", 2, false}, {``, "", 0, false}, {`a"`, "", 0, false},
		{`"\x"`, "", 2, false}, {`"\u00g0"`, "", 5, false}, {"\"\n\"", "", 1, false}, {`"\ud83d"`, "", 7, false}, {`"\ud83dx"`, "", 7, false},
		{`"\ud83d\n"`, "", 8, false}, {`"\ud83d\u0041"`, "", 9, false}, {`"\ude00"`, "", 4, false}, {"\"\xc3\x28", "", 2, false}, {"\"\xed\xa0", "", 2, false},
		{"\"\xff", "", 1, false}, {"\"\xe2\x82", "", 3, false}, {`"\uD83D\ud`, "", 10, false},
	} {
		if text, n, ok := p.literal(c.s); text != c.text || n != c.n || ok != c.ok {
			t.Errorf("the reference has %q, %d, %v for %q", text, n, ok, c.s)
		}
	}
}
