package jsonscan_test

import (
	"errors"
	"fmt"
	"strings"
	"testing"

	"crucible/api"
	"crucible/escape"
)

// settings are where a literal may stand: as a value and as a key, at the top and within others. What is ahead of it, how many are open there, and what ends the text behind it.
func settings() []struct {
	ahead, behind string
	depth         int
} {
	return []struct {
		ahead, behind string
		depth         int
	}{{"", "", 0}, {"\n ", " ", 0}, {"[", "]", 1}, {`[0,`, ",0]", 1}, {`{"a":`, "}", 1}, {"{", ":0}", 1}, {`{"a":0, `, " :\t0}", 1}, {`[{"a":[{`, ":0}]}]", 4}}
}

// literalIs: it is a literal, as a value and as a key, and ends nowhere before.
func literalIs(t *testing.T, literal string) {
	t.Helper()
	for _, c := range settings() {
		isText(t, c.ahead+literal+c.behind)
		for n := range len(literal) {
			if n > 0 || c.depth > 0 {
				sameAsReference(t, c.ahead+literal[:n])
			}
			if n > 0 {
				isBegun(t, c.ahead+literal[:n], c.depth)
			}
		}
	}
}

// literalFails: it goes wrong at that place, as a value and as a key.
func literalFails(t *testing.T, literal string, at int) {
	t.Helper()
	for _, c := range settings() {
		goesWrong(t, c.ahead+literal, len(c.ahead)+at, c.depth)
		isBegun(t, c.ahead+literal[:at], c.depth)
	}
}

// P16.2: literals that are right, with every escape and with encodings of all lengths.
func TestLiterals(t *testing.T) {
	for _, s := range []string{`""`, `" "`, `"a"`, `"/"`, `"'"`, "\"\x7f\"", `"[{,:}]"`, `"0"`,
		`"\""`, `"\\"`, `"\/"`, `"\b"`, `"\f"`, `"\n"`, `"\r"`, `"\t"`, `"\\\""`, `"\\n"`,
		`"\u0000"`, `"\u001f"`, `"\u0022"`, `"\u005c"`, `"\uabcd"`, `"\uABCD"`, `"\uFfFf"`, `"\ud7ff"`, `"\uD7fF"`, `"\ud000"`, `"\ue000"`, `"\uE000"`, `"\u0d80"`, `"\u00d8"`,
		`"\ud800\udc00"`, `"\uD83D\uDE00"`, `"\udbff\udfff"`, `"\uDbFf\uDfFf"`, `"\uda00\udd00x"`, `"\ud83d\ude00\ud83d\ude00"`, `"\ud83d\ude00\u0041"`, `"\u0041\ud83d\ude00"`,
		"\"\u0080\"", "\"\u00e9\"", "\"\u07ff\"", "\"\u0800\"", "\"\u0fff\"", "\"\u1000\"", "\"\ud7ff\"", "\"\ue000\"", "\"\ufeff\"", "\"\uffff\"", "\"\U00010000\"", "\"\U0001f600\"", "\"\U0003ffff\"", "\"\U00040000\"", "\"\U000fffff\"", "\"\U00100000\"", "\"\U0010ffff\"", "\"é😀é\"", "\"\u2028\"",
	} {
		literalIs(t, s)
	}
}

// P16.2: literals that are wrong, each in a key and in a value.
func TestLiteralsWrong(t *testing.T) {
	for _, c := range []struct {
		s  string
		at int
	}{
		{`"\x"`, 2}, {`"\a`, 2}, {`"\v`, 2}, {`"\0`, 2}, {`"\'`, 2}, {`"\U`, 2}, {`"\N`, 2}, {"\"\\\n", 2}, {"\"\\\x80", 2}, {`"\ `, 2}, {`"\e`, 2},
		{`"\ug`, 3}, {`"\u"`, 3}, {`"\u0"`, 4}, {`"\u00"`, 5}, {`"\u000"`, 6}, {`"\u00g0"`, 5}, {`"\u000G"`, 6}, {`"\u00:`, 5}, {`"\u0/`, 4}, {`"\u@`, 3}, {"\"\\u0`", 4}, {`"\u-1`, 3}, {`"\u 1`, 3}, {`"\u{1`, 3}, {`"\u00é`, 5},
		{`"\udc00"`, 4}, {`"\ude00"`, 4}, {`"\uDC00"`, 4}, {`"\udfff"`, 4}, {`"\uDFFF"`, 4}, {`"\udg`, 4}, {`"\ud"`, 4}, {`"\ud7"`, 5}, {`"\ud7g`, 5}, {`"\ud70"`, 6},
		{`"\ud800"`, 7}, {`"\ud83d"`, 7}, {`"\ud83dx"`, 7}, {`"\uDBFF` + "\n", 7}, {`"\ud83d\n"`, 8}, {`"\ud83d\"`, 8}, {`"\ud83d\\`, 8}, {`"\ud83d\U`, 8}, {`"\ud83d\u0041"`, 9}, {`"\ud83d\ue000"`, 9}, {`"\ud83d\u"`, 9}, {`"\ud83d\ug`, 9},
		{`"\ud83d\ud83d"`, 10}, {`"\ud83d\udbff`, 10}, {`"\ud83d\ud7ff`, 10}, {`"\ud83d\uD0`, 10}, {`"\ud83d\udg`, 10}, {`"\ud83d\udcg`, 11}, {`"\ud83d\udc0"`, 12}, {`"\ud83d\udf"`, 11}, {`"\ud8"`, 5}, {`"\ud8g`, 5}, {`"\ud80"`, 6}, {`"\ud83d\ude00\ude00"`, 16},
		{"\"\xc3\x28", 2}, {"\"\xc3\"", 2}, {"\"\xe2\x82\"", 3}, {"\"\xe2\"", 2}, {"\"\xf0\x9f\x98\"", 4}, {"\"\xf0\x9f\"", 3}, {"\"\xf0\"", 2}, {"\"\xc3\xc3", 2}, {"\"\xe2\x82\xe2", 3}, {"\"\xf0\x9f\x98\\", 4},
		{"\"\xe0\x80", 2}, {"\"\xe0\x9f", 2}, {"\"\xed\xa0", 2}, {"\"\xed\xbf", 2}, {"\"\xf0\x80", 2}, {"\"\xf0\x8f", 2}, {"\"\xf4\x90", 2}, {"\"\xf4\xbf", 2},
		{"\"\xff", 1}, {"\"\xfe", 1}, {"\"\x80", 1}, {"\"\xbf", 1}, {"\"\xc0", 1}, {"\"\xc1", 1}, {"\"\xf5", 1}, {"\"\xf8", 1}, {"\"é\x80", 3}, {"\"\xf4\x8f\xbf\xc0", 4}, {"\"a\xf4\x8f\x7f", 4},
	} {
		literalFails(t, c.s, c.at)
	}
	for b := range 32 {
		c := string([]byte{byte(b)})
		literalFails(t, `"`+c, 1)
		literalFails(t, `"ab`+c+`"`, 3)
		literalFails(t, `"\u0000`+c, 7)
		literalFails(t, "\"é"+c, 3)
		literalFails(t, "\"\xe2"+c, 2)
		literalFails(t, `"\`+c, 2)
		literalFails(t, `"\u0`+c, 4)
	}
}

// P16.2: all four digits behind \u, and each of them wrong.
func TestUnits(t *testing.T) {
	for unit := range 65536 {
		s := fmt.Sprintf(`"\u%04x"`, unit)
		want := state{size: 8}
		switch {
		case unit >= 0xd800 && unit <= 0xdbff:
			want = state{write: input, writeAt: 7, close: input, closeAt: 7, size: 7}
		case unit >= 0xdc00 && unit <= 0xdfff:
			want = state{write: input, writeAt: 4, close: input, closeAt: 4, size: 4}
		}
		scans(t, s, want)
		scans(t, `"\u`+strings.ToUpper(s[3:7])+`"`, want)
		// Behind the first half of a pair it is the other way round.
		s = `"\ud83d` + s[1:]
		want = state{size: 14}
		switch {
		case unit < 0xd000 || unit > 0xdfff:
			want = state{write: input, writeAt: 9, close: input, closeAt: 9, size: 9}
		case unit < 0xdc00:
			want = state{write: input, writeAt: 10, close: input, closeAt: 10, size: 10}
		}
		scans(t, s, want)
		if t.Failed() {
			return
		}
	}
}

// P16.2: every code point by itself between quotes.
func TestPoints(t *testing.T) {
	for c := rune(0); c <= 1114111; c++ {
		s := `"` + string(c) + `"`
		want := state{size: len(s)}
		switch {
		case c >= 55296 && c <= 57343:
			continue
		case c < 32:
			want = state{write: input, writeAt: 1, close: input, closeAt: 1, size: 1}
		case c == '"':
			want = state{write: input, writeAt: 2, close: input, closeAt: 2, size: 2}
		case c == '\\':
			want = state{close: input, closeAt: 3, size: 3}
		}
		scans(t, s, want)
		if t.Failed() {
			return
		}
		if c > 70000 {
			c += 36
		}
	}
}

// placeOf is where a literal by itself goes wrong, as chapter 10 has it; its length, if nowhere.
func placeOf(s string) int {
	_, err := escape.Unquote(s)
	var fault *api.Fault
	if errors.As(err, &fault) {
		return fault.At
	}
	return len(s)
}

func (r *rule) anyLiteral() string {
	s := []byte(r.literal())
	for range 1 + r.below(2) {
		at := 1 + r.below(len(s))
		switch r.below(4) {
		case 0:
			s = append(s[:at:at], append([]byte{r.wild()}, s[at:]...)...)
		case 1:
			s[at-1] = r.wild()
		case 2:
			s = s[:at]
		}
	}
	s[0] = '"'
	return string(s)
}

// P16.5: a literal by itself is a JSON text, and where it goes wrong the place is chapter 10's.
func TestLiteralPlaces(t *testing.T) {
	r := rule{21}
	wrong := 0
	for range 30000 {
		s := r.anyLiteral()
		_, next, err := escape.Scan(s, 0)
		switch at := placeOf(s); {
		case err == nil && next == len(s):
			scans(t, s, state{size: len(s)})
		case err == nil:
			// Blanks may stand behind it.
			sameAsReference(t, s)
		case at == len(s):
			scans(t, s, state{close: input, closeAt: at, size: at})
		default:
			wrong++
			scans(t, s, state{write: input, writeAt: at, close: input, closeAt: at, size: at})
			scans(t, "[1,{"+s, state{write: input, writeAt: at + 4, close: input, closeAt: at + 4, size: at + 4, depth: 2})
		}
	}
	if wrong < 5000 {
		t.Errorf("%d go wrong", wrong)
	}
}
