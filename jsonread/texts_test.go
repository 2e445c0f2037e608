package jsonread_test

import (
	"fmt"
	"strings"
	"testing"
	"unicode/utf16"

	"crucible/escape"
)

// isText asks for what stands between quotes as a text and as a key, by itself and within others.
func isText(t *testing.T, inner, want string) {
	t.Helper()
	s := `"` + inner + `"`
	reads(t, s, text(want))
	reads(t, "\r\n"+s+"\t ", text(want))
	reads(t, "["+s+" ,"+s+"]", list(text(want), text(want)))
	reads(t, "{"+s+":"+s+"}", object(text(want), text(want)))
	reads(t, "{ "+s+" : ["+s+"] }", object(text(want), list(text(want))))
}

// P17.1: every escape, and none.
func TestEscapes(t *testing.T) {
	for _, c := range [][2]string{
		{"", ""}, {"a", "a"}, {`\"`, `"`}, {`\\`, `\`}, {`\/`, "/"}, {"/", "/"}, {`\b`, "\b"}, {`\f`, "\f"}, {`\n`, "\n"}, {`\r`, "\r"}, {`\t`, "\t"}, {`\\n`, `\n`}, {`\\\n`, "\\\n"}, {`\\u0041`, `\u0041`}, {`\"\"\\`, `""\`},
		{`\u0000`, "\x00"}, {`\u001f`, "\x1f"}, {`\u0022`, `"`}, {`\u005c`, `\`}, {`\u005C\u005c`, `\\`}, {`\u005cn`, `\n`}, {`\u0061\u0062`, "ab"}, {`\u00e9\n`, "é\n"}, {`\u00E9`, "é"}, {`\uFfFf`, "\uffff"}, {`\ud7ff\ue000`, "\ud7ff\ue000"}, {`\u00411`, "A1"},
		{`\ud83d\ude00\/` + "\x7f", "😀/\x7f"}, {`\uD83D\uDe00`, "😀"}, {`\ud800\udc00`, "\U00010000"}, {`\udbff\udfff`, "\U0010ffff"}, {`\ud83d\ude00\ud83d\ude01`, "😀😁"}, {`x\ud83d\ude00y`, "x😀y"},
		{"é😀ﬀ", "é😀ﬀ"}, {"\x7f\u0080\u07ff\u0800\uffff\U0010ffff", "\x7f\u0080\u07ff\u0800\uffff\U0010ffff"}, {"\ufeff", "\ufeff"}, {"\u2028\u2029", "\u2028\u2029"}, {" ", " "},
		{"[1, {}] : , null", "[1, {}] : , null"}, {`]}\",:`, `]}",:`}, {"1e999", "1e999"}, {strings.Repeat(`\n`, 3000), strings.Repeat("\n", 3000)}, {strings.Repeat("é", 3000), strings.Repeat("é", 3000)},
	} {
		isText(t, c[0], c[1])
	}
	for c := rune(0); c <= 0x10ffff; c += 1 + c/60 {
		if c >= 0xd800 && c <= 0xdfff {
			continue
		}
		said := fmt.Sprintf(`\u%04x`, c)
		if c >= 65536 {
			high, low := utf16.EncodeRune(c)
			said = fmt.Sprintf(`\u%04x\u%04X`, high, low)
		}
		isText(t, said, string(c))
		if c >= 32 && c != '"' && c != '\\' {
			isText(t, string(c), string(c))
		}
	}
}

// P17.1: what is no text between quotes is told by its place, within others too.
func TestWrongTexts(t *testing.T) {
	for _, c := range []struct {
		s  string
		at int
	}{
		{`"\ud83dx"`, 7}, {`"\ude00"`, 4}, {`"a`, 2}, {"\"a\n\"", 2}, {"\"\xe2\x82\"", 3}, {"\"\xed\xa0\x80\"", 2}, {`"`, 1}, {`"\`, 2}, {`"\x"`, 2}, {`"\u00g0"`, 5}, {`"\ud83d"`, 7}, {`"\ud83d\n"`, 8}, {`"\ud83d\u0041"`, 9},
		{"\"\xff\"", 1}, {"\"\xc0\x80\"", 1}, {"\"\xc3(\"", 2}, {"\"\xf4\x90\x80\x80\"", 2}, {"\"\x00\"", 1}, {"\"\x1f\"", 1}, {"\"\t\"", 1}, {`'a'`, 0}, {`"a"b`, 3}, {`"a""b"`, 3},
	} {
		fails(t, c.s, input, c.at)
		fails(t, " "+c.s, input, c.at+1)
		fails(t, "[1e999,"+c.s, input, c.at+7)
		fails(t, `{"a":0,"a":`+c.s, input, c.at+11)
		fails(t, "{"+c.s, input, c.at+1)
	}
}

// P17.2: what stands between quotes is read as what escape.Unquote answers, errors too.
func TestAnyText(t *testing.T) {
	r := rule{1702}
	right, wrong := 0, 0
	for range 20000 {
		m := &maker{rule: &r}
		m.literal(r.text() + r.text())
		s := []byte(m.String())
		if r.below(2) == 0 {
			s[1+r.below(len(s)-1)] = r.wild()
		}
		want, err := escape.Unquote(string(s))
		if err == nil {
			right++
			reads(t, string(s), text(want))
			continue
		}
		if _, _, err = escape.Scan(string(s), 0); err != nil {
			wrong++
			fails(t, string(s), input, tells(err).at)
		}
		// Behind a text between quotes blanks may stand, but not where Unquote is asked.
		sameAsReference(t, string(s))
	}
	if right < 8000 || wrong < 4000 {
		t.Errorf("%d right, %d wrong", right, wrong)
	}
}
