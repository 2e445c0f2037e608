package escape_test

import (
	"errors"
	"slices"
	"strings"
	"testing"
	"unicode/utf8"

	"crucible/api"
	"crucible/escape"
)

// P10.4: what is quoted is unquoted to what it was.
func TestUnquoteUndoesQuote(t *testing.T) {
	r := rule{51}
	for range 50000 {
		s := r.text(12)
		quoted, ok := escape.Quote(s)
		if !ok {
			t.Errorf("Quote(%q) is false", s)
		}
		unquoteIs(t, quoted, s)
	}
	for c := rune(0); c <= 1114111 && !t.Failed(); c++ {
		if s := string(c); isPoint(int(c)) {
			quoted, _ := escape.Quote(s)
			unquoteIs(t, quoted, s)
		}
	}
}

// P10.4: all literals of a text are quoted alike.
func TestAllLiteralsAlike(t *testing.T) {
	r := rule{53}
	for range 20000 {
		s := r.text(8)
		want, _ := escape.Quote(s)
		for range 4 {
			literal := r.literal(s)
			text, err := escape.Unquote(literal)
			if text != s || err != nil {
				t.Errorf("Unquote(%q) = %q, %v, want %q", literal, text, err, s)
			}
			quoteIs(t, text, want)
		}
	}
}

// P10.4: whatever is unquoted is a text, and quoted it is a literal of that text.
func TestLiteralsAreTexts(t *testing.T) {
	r := rule{55}
	for range 50000 {
		s := r.anyString(6)
		text, err := escape.Unquote(s)
		if err != nil {
			continue
		}
		quoted, ok := escape.Quote(text)
		if !ok || !utf8.ValidString(text) {
			t.Errorf("Unquote(%q) = %q, which is no text", s, text)
		}
		unquoteIs(t, quoted, text)
	}
}

// P10.4: what stands ahead and behind makes no difference.
func TestAheadAndBehind(t *testing.T) {
	r := rule{57}
	for range 20000 {
		literal, ahead, behind := r.literal(r.text(6)), r.anyString(4), r.anyString(4)
		text, next, err := escape.Scan(literal, 0)
		if err != nil || next != len(literal) {
			t.Errorf("Scan(%q, 0) = %q, %d, %v", literal, text, next, err)
		}
		scanIs(t, ahead+literal+behind, len(ahead), text, len(ahead)+len(literal))
		scanIs(t, literal+behind, 0, text, len(literal))
		// A wrong one is wrong at the same byte, wherever it stands; what is cut off may be gone on with.
		s := r.anyString(6)
		_, _, err = escape.Scan(s, 0)
		var fault *api.Fault
		if errors.As(err, &fault) && fault.At < len(s) {
			scanFails(t, ahead+s+behind, len(ahead), len(ahead)+fault.At)
		}
	}
}

// endings lead to the end of a literal from every place within one.
func endings() []string {
	return []string{`""`, `"`, `n"`, `0000"`, `000"`, `00"`, `0"`, `\udc00"`, `udc00"`, `dc00"`, `c00"`, `00\udc00"`, `0\udc00"`,
		"\x80\"", "\x80\x80\"", "\x80\x80\x80\"", "\xa0\x80\"", "\x90\x80\x80\""}
}

// canEnd: does some ending lead to a literal that ends there?
func canEnd(s string) bool {
	return slices.ContainsFunc(endings(), func(ending string) bool {
		_, err := escape.Unquote(s + ending)
		return err == nil
	})
}

// P10.4: what stands ahead of the place of an ErrInput can be gone on with to a literal, with the byte there it can't.
func TestPlaceOfInput(t *testing.T) {
	r := rule{59}
	wrong, cut := 0, 0
	for range 50000 {
		s := r.anyString(6)
		_, _, err := escape.Scan(s, 0)
		var fault *api.Fault
		if !errors.As(err, &fault) {
			continue
		}
		if !canEnd(s[:fault.At]) {
			t.Errorf("Scan(%q, 0): at %d, but what stands ahead can't be gone on with", s, fault.At)
		}
		if fault.At == len(s) {
			cut++
			continue
		}
		wrong++
		if canEnd(s[:fault.At+1]) {
			t.Errorf("Scan(%q, 0): at %d, but with that byte it can be gone on with", s, fault.At)
		}
		for range 3 {
			scanFails(t, s[:fault.At+1]+r.anyString(4), 0, fault.At)
		}
	}
	if wrong < 5000 || cut < 5000 {
		t.Errorf("%d go wrong, %d are cut off", wrong, cut)
	}
}

// P10.4: every beginning of a literal can be gone on with, whatever the literal.
func TestBeginnings(t *testing.T) {
	r := rule{61}
	for range 5000 {
		literal := r.literal(r.text(4))
		for n := range len(literal) {
			scanFails(t, literal[:n], 0, n)
			if !canEnd(literal[:n]) {
				t.Errorf("%q can't be gone on with", literal[:n])
			}
		}
	}
}

// P10.4: the texts of two literals, one behind the other, are the text of their pieces one behind the other.
func TestPiecesOneBehindTheOther(t *testing.T) {
	r := rule{63}
	for range 20000 {
		a, b := r.literal(r.text(5)), r.literal(r.text(5))
		x, _ := escape.Unquote(a)
		y, _ := escape.Unquote(b)
		unquoteIs(t, strings.TrimSuffix(a, `"`)+b[1:], x+y)
	}
}
