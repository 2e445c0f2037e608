package escape_test

import (
	"encoding/json"
	"fmt"
	"strings"
	"testing"
	"unicode/utf8"

	"crucible/escape"
)

func quoteIs(t *testing.T, s, want string) {
	t.Helper()
	if got, ok := escape.Quote(s); got != want || !ok {
		t.Errorf("Quote(%q) = %q, %v, want %q", s, got, ok, want)
	}
}

func quoteFails(t *testing.T, s string) {
	t.Helper()
	if got, ok := escape.Quote(s); got != "" || ok {
		t.Errorf("Quote(%q) = %q, %v, though it is no text", s, got, ok)
	}
}

// inQuotes is how a code point is said, in the words of P10.1.
func inQuotes(c rune) string {
	switch {
	case c == '"':
		return `\"`
	case c == '\\':
		return `\\`
	case c == 8:
		return `\b`
	case c == 9:
		return `\t`
	case c == 10:
		return `\n`
	case c == 12:
		return `\f`
	case c == 13:
		return `\r`
	case c < 32:
		return fmt.Sprintf(`\u00%02x`, c)
	}
	return string(c)
}

// P10.1: the chapter's examples, and what is like them.
func TestQuoteKnown(t *testing.T) {
	quoteIs(t, "", `""`)
	quoteIs(t, "a\"\\/", `"a\"\\/"`)
	quoteIs(t, "\x08\x09\x0a\x0c\x0d\x00\x1f\x7f", `"\b\t\n\f\r\u0000\u001f`+"\x7f\"")
	quoteIs(t, "\xc3\xa9", "\"\xc3\xa9\"")
	quoteIs(t, "\xe2\x80\xa8", "\"\xe2\x80\xa8\"")
	quoteIs(t, "\xe2\x80\xa9<>&'", "\"\xe2\x80\xa9<>&'\"")
	quoteIs(t, `\n`, `"\\n"`)
	quoteIs(t, `""`, `"\"\""`)
	quoteIs(t, `\u0041`, `"\\u0041"`)
	quoteIs(t, "aé€😀b", `"aé€😀b"`)
	quoteIs(t, "\uFFFD", "\"\xef\xbf\xbd\"")
	quoteIs(t, "\x0b\x0e\x0f\x10\x1a\x1b", `"\u000b\u000e\u000f\u0010\u001a\u001b"`)
}

// P10.1: every code point, by itself and between others.
func TestQuoteEveryPoint(t *testing.T) {
	for c := rune(0); c <= 1114111 && !t.Failed(); c++ {
		if !isPoint(int(c)) {
			continue
		}
		quoteIs(t, string(c), `"`+inQuotes(c)+`"`)
		if c < 300 {
			quoteIs(t, "a"+string(c)+string(c)+"é", `"a`+inQuotes(c)+inQuotes(c)+`é"`)
		}
	}
}

// P10.1: code points on either side of where something turns, next to each other.
func TestQuoteEdges(t *testing.T) {
	edge := edgePoints()
	for _, a := range edge {
		for _, b := range edge {
			quoteIs(t, string(a)+string(b), `"`+inQuotes(a)+inQuotes(b)+`"`)
		}
	}
}

// P10.1: what is no text, by itself, ahead of texts and behind them.
func TestQuoteNoText(t *testing.T) {
	for _, s := range []string{"\xc3", "\x80", "\xbf", "\xc0\x80", "\xc1\xbf", "\xe0\x80\x80", "\xe0\x9f\xbf", "\xed\xa0\x80", "\xed\xbf\xbf", "\xed\xa0\xbd\xed\xb8\x80", "\xf0\x80\x80\x80", "\xf0\x8f\xbf\xbf",
		"\xf4\x90\x80\x80", "\xf5\x80\x80\x80", "\xf8\x88\x80\x80\x80", "\xfe", "\xff", "\xe2\x82", "\xf0\x9f\x98", "\xc0\xa2", "\xc1\x9c"} {
		for _, text := range []string{"", "a", "\"", "\\", "\n", "é", "😀"} {
			quoteFails(t, s+text)
			quoteFails(t, text+s)
			quoteFails(t, text+s+text)
		}
	}
}

// P10.1: every string of up to two bytes: false just where it is no text.
func TestQuoteShort(t *testing.T) {
	for n := range 1 << 16 {
		both := string([]byte{byte(n >> 8), byte(n)})
		for _, s := range []string{both, both[1:]} {
			if !utf8.ValidString(s) {
				quoteFails(t, s)
				continue
			}
			want := `"`
			for _, c := range s {
				want += inQuotes(c)
			}
			quoteIs(t, s, want+`"`)
		}
	}
}

// P10.1: what is quoted is a text in JSON, as the language's own reader has it.
func TestQuoteIsJSON(t *testing.T) {
	r := rule{21}
	for range 20000 {
		s := r.text(12)
		got, _ := escape.Quote(s)
		var again string
		if err := json.Unmarshal([]byte(got), &again); err != nil || again != s {
			t.Errorf("Quote(%q) = %s, which is read as %q, %v", s, got, again, err)
		}
		if strings.ContainsAny(got, "\x00\x08\x09\x0a\x0c\x0d\x1f") || !utf8.ValidString(got) {
			t.Errorf("Quote(%q) = %q", s, got)
		}
	}
}
