package escape_test

import (
	"fmt"
	"strings"
	"testing"

	"crucible/escape"
)

// P10.2: the chapter's examples, and what is like them.
func TestUnquoteKnown(t *testing.T) {
	unquoteIs(t, `"\u00e9\ud83d\ude00\/"`, "\xc3\xa9\xf0\x9f\x98\x80\x2f")
	unquoteIs(t, `"\uD83D\uDE00"`, "\xf0\x9f\x98\x80")
	unquoteIs(t, `""`, "")
	unquoteIs(t, `"a/é€😀"`, "a/é€😀")
	unquoteIs(t, `"\"\\\/\b\f\n\r\t"`, "\"\\/\x08\x0c\x0a\x0d\x09")
	unquoteIs(t, "\"\x7f \"", "\x7f ")
	unquoteIs(t, `"\\u0041"`, `\u0041`)
	unquoteIs(t, `"\u005cu0041"`, `\u0041`)
	unquoteIs(t, `"\u0022"`, `"`)
	unquoteIs(t, `"\u0000\u001f\u000a"`, "\x00\x1f\x0a")
	unquoteIs(t, `"\u00411"`, "A1")
	unquoteIs(t, `"\uFfFf\uD7fF\uE000"`, "\uffff\ud7ff\ue000")
	unquoteIs(t, `"\ud800\udc00\udBFF\uDFff"`, "\U00010000\U0010ffff")
	unquoteIs(t, "\"\xe2\x80\xa8\xed\x9f\xbf\xee\x80\x80\xf0\x90\x80\x80\xf4\x8f\xbf\xbf\xc2\x80\xe0\xa0\x80\"", "\u2028\ud7ff\ue000\U00010000\U0010ffff\u0080\u0800")
}

// P10.2: where it goes wrong: the chapter's examples, and what is like them.
func TestUnquoteWrong(t *testing.T) {
	for _, c := range []struct {
		s     string
		place int
	}{
		{`"a"b`, 3}, {`"a`, 2}, {``, 0}, {`a"`, 0}, {`"\x"`, 2}, {`"\u00g0"`, 5}, {"\"\n\"", 1},
		{`"\ud83d"`, 7}, {`"\ud83dx"`, 7}, {`"\ud83d\n"`, 8}, {`"\ud83d\u0041"`, 9}, {`"\ude00"`, 4},
		{"\"\xc3\x28", 2}, {"\"\xe0\x80", 2}, {"\"\xed\xa0", 2}, {"\"\xf4\x90", 2}, {"\"\xff", 1}, {"\"\x80", 1}, {"\"\xc0", 1}, {"\"\xe2\x82", 3},
		{`"`, 1}, {`""x`, 2}, {`"""`, 2}, {`"" `, 2}, {` ""`, 0}, {"\"a\"\x00", 3}, {"\"a\"\xff", 3}, {`"a""b"`, 3}, {`'a'`, 0}, {"\xff", 0}, {"\x00", 0},
		{`"\U0041"`, 2}, {`"\a"`, 2}, {`"\v"`, 2}, {`"\0"`, 2}, {`"\'"`, 2}, {`"\B"`, 2}, {"\"\\\n\"", 2}, {"\"\\\xc3\xa9\"", 2}, {"\"\\\x00\"", 2}, {`"\u"`, 3}, {`"\uu"`, 3}, {`"\u+041"`, 3}, {`"\u-041"`, 3}, {`"\u 041"`, 3}, {`"\u0x41"`, 4}, {`"\u{41}"`, 3},
		{`"\u004"`, 6}, {`"\u00`, 5}, {`"\u0041`, 7}, {"\"\\u004\xc3\xa9\"", 6}, {`"\uDC00"`, 4}, {`"\udfff"`, 4}, {`"\uDe00\ud83d"`, 4},
		{`"\ud83d`, 7}, {`"\ud83d\`, 8}, {`"\ud83d\u`, 9}, {`"\ud83d\ud`, 10}, {`"\ud83d\ude`, 11}, {`"\ud83d\ude0`, 12}, {`"\ud83d\ude00`, 13},
		{`"\ud83d\\`, 8}, {`"\ud83d\"`, 8}, {`"\ud83d\ud83d"`, 10}, {`"\uD83D\uD7ff"`, 10}, {`"\uD83D\uE000"`, 9}, {`"\uDBff\uDb00"`, 10}, {`"\ud83d\ude0g"`, 12}, {`"\ud83d\udeG0"`, 11}, {`"\ud83d\U`, 8}, {"\"\\ud83d\xed\xb8\x80\"", 7}, {`"\ud83d😀"`, 7}, {`"\ud83d\u"`, 9}, {`"\ud83d\uc`, 9}, {`"\ud83d\ue`, 9},
		{"\"\xc1\xbf\"", 1}, {"\"\xc0\xa2\"", 1}, {"\"\xe0\x9f\xbf\"", 2}, {"\"\xed\xbf\xbf\"", 2}, {"\"\xf0\x8f\xbf\xbf\"", 2}, {"\"\xf4\x90\x80\x80\"", 2}, {"\"\xf5\x80\x80\x80\"", 1}, {"\"\xf8\x88\x80\x80\x80\"", 1}, {"\"\xed\xa0\xbd\xed\xb8\x80\"", 2},
		{"\"\xf0\x9f\x98\"", 4}, {"\"\xf0\x9f\x98a\"", 4}, {"\"\xf0\x9f\"", 3}, {"\"\xf0\"", 2}, {"\"\xe2\x82\"", 3}, {"\"\xe2\"", 2}, {"\"\xc3\"", 2}, {"\"\xf0", 2}, {"\"\xf0\x9f", 3}, {"\"\xf0\x9f\x98", 4}, {"\"\xc3", 2}, {"\"\xc3\xc3\xa9\"", 2}, {"\"\xe2\x82\xe2\x82\xac\"", 3}, {"\"\xc3\\n\"", 2},
		{"\"a\x1fb\"", 2}, {"\"\t\"", 1}, {"\"é\x00\"", 3}, {"\"\\n\x0d\"", 3},
	} {
		unquoteFails(t, c.s, c.place)
	}
}

// P10.2: every byte behind the quote, behind a backslash, at each digit, behind a first half, and behind a literal.
func TestUnquoteEveryByte(t *testing.T) {
	for _, ahead := range []string{``, `"`, `"\`, `"\u`, `"\u0`, `"\u00`, `"\u00e`, `"\ud`, `"\uD`, `"\ud7`, `"\ud8`, `"\ud83`, `"\ud83d`, `"\ud83d\`, `"\ud83d\u`, `"\ud83d\uD`, `"\ud83d\ud`, `"\ud83d\ude`, `"\ud83d\ude0`, `"\udbff\udff`, `"\ue`, `"\uc`, `"\uf`, `"a`, `"\n`, `"\u0041`, `"\ud83d\ude00`, `"a"`, `""`} {
		for b := range 256 {
			s := ahead + string([]byte{byte(b)})
			for _, behind := range []string{"", `"`, `0"`, `00"`, `000"`, `0000"`, `\udc00"`, `00\udc00"`, `x`, "\x80\""} {
				sameAsReference(t, s+behind, 0)
			}
		}
	}
}

// P10.2: every number behind \u, in small letters and great ones, by itself and ahead of a second half.
func TestUnquoteEveryUnit(t *testing.T) {
	for c := range 65536 {
		if t.Failed() {
			return
		}
		low, great := fmt.Sprintf("\\u%04x", c), fmt.Sprintf("\\u%04X", c)
		for _, s := range []string{low, great} {
			switch {
			case isPoint(c):
				unquoteIs(t, `"`+s+`"`, string(rune(c)))
				unquoteFails(t, `"`+s+`\udc00"`, 10)
			case c < 56320:
				unquoteFails(t, `"`+s+`"`, 7)
				unquoteIs(t, `"`+s+`\udc00"`, string(rune(65536+(c-55296)*1024)))
				unquoteIs(t, `"`+s+`\uDFFF"`, string(rune(65536+(c-55296)*1024+1023)))
			default:
				unquoteFails(t, `"`+s+`"`, 4)
				unquoteIs(t, `"\ud800`+s+`"`, string(rune(65536+c-56320)))
				unquoteIs(t, `"\uDBFF`+s+`"`, string(rune(65536+1023*1024+c-56320)))
			}
		}
		sameAsReference(t, `"\ud83d`+low+`"`, 0)
	}
}

// P10.2: every code point, as itself and by \u.
func TestUnquoteEveryPoint(t *testing.T) {
	r := rule{31}
	for c := rune(0); c <= 1114111 && !t.Failed(); c++ {
		switch {
		case !isPoint(int(c)):
			continue
		case c < 32:
			unquoteFails(t, `"`+string(c)+`"`, 1)
		case c == '"':
			unquoteFails(t, `"""`, 2)
		case c == '\\':
			unquoteFails(t, `"\"`, 3)
		default:
			unquoteIs(t, `"`+string(c)+`"`, string(c))
		}
		unquoteIs(t, `"`+r.units(c)+`"`, string(c))
	}
}

// P10.2: every two bytes, and behind them those at which something turns.
func TestUnquoteEveryTwoBytes(t *testing.T) {
	const tails = "\"\x7f\x80\x8f\xa0\xbf\xc0"
	for n := range 1 << 16 {
		if t.Failed() {
			return
		}
		s := "\"" + string([]byte{byte(n >> 8), byte(n)})
		sameAsReference(t, s, 0)
		sameAsReference(t, s+"\"", 0)
		if n>>8 < 0xc0 {
			continue
		}
		for i := range len(tails) {
			for j := range len(tails) {
				sameAsReference(t, s+tails[i:i+1]+tails[j:j+1]+"\"", 0)
			}
		}
	}
}

// P10.2: what is cut off at every place: the place is its length.
func TestUnquoteCutOff(t *testing.T) {
	for _, s := range []string{`"\u00e9\ud83d\ude00\/\"\\\n"`, `"aé€😀b"`, `""`, `"\uD7FF\uE000\uDBFF\uDFFF"`, "\"\u0080\u0800\U00010000\U0010ffff\ud7ff\ue000\""} {
		if _, err := escape.Unquote(s); err != nil {
			t.Errorf("Unquote(%q): %v", s, err)
		}
		for n := range len(s) {
			unquoteFails(t, s[:n], n)
		}
	}
}

// P10.2, P10.3: the error of Scan is that of Unquote; what is any string.
func TestUnquoteAny(t *testing.T) {
	r := rule{33}
	right := 0
	for range 100000 {
		s := r.anyString(6)
		sameAsReference(t, s, 0)
		if _, err := escape.Unquote(s); err == nil {
			right++
		}
	}
	if right < 10000 || right > 90000 {
		t.Errorf("%d of the strings are literals", right)
	}
}

// P10.2: what stands behind a literal, and is one itself.
func TestUnquoteTwice(t *testing.T) {
	for _, s := range []string{`""`, `"a"`, `"\""`, `"\\"`, `"😀\u0041"`} {
		unquoteFails(t, s+s, len(s))
		unquoteFails(t, s+strings.Repeat(" ", 3), len(s))
		unquoteFails(t, " "+s, 0)
	}
}
