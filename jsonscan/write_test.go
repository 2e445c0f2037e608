package jsonscan_test

import (
	"strings"
	"testing"

	"crucible/jsonscan"
)

const (
	blanks = "\t\n\r "
	digits = "0123456789"
)

// P16.1: a new scanner is there, and nothing was written to it.
func TestNew(t *testing.T) {
	s := jsonscan.New()
	if s == nil {
		t.Fatal("no scanner")
	}
	want := state{close: input}
	if got := stateOf(s, nil); got != want {
		t.Errorf("new: %v", got)
	}
	if err := s.Write(""); err != nil {
		t.Errorf("nothing: %v", err)
	}
	if got := stateOf(s, nil); got != want {
		t.Errorf("nothing written: %v", got)
	}
	if other := jsonscan.New(); other == s {
		t.Error("one scanner twice")
	}
}

// P16.2, P16.3, P16.4: the examples of the chapter.
func TestKnown(t *testing.T) {
	isBegun(t, "", 0)
	isBegun(t, ` [1, {"a": tr`, 2)
	isText(t, ` [1, {"a": true}]`)
	for _, s := range []string{"12", "123", "123 "} {
		isText(t, s)
	}
	goesWrong(t, "123 4", 4, 0)
	goesWrong(t, "01", 1, 0)
	isBegun(t, "-", 0)
	isBegun(t, "1.", 0)
	goesWrong(t, "1.e", 2, 0)
	goesWrong(t, "+1", 0, 0)
	isBegun(t, "1e+", 0)
	for _, c := range []struct {
		s         string
		at, depth int
	}{
		{`[1,]`, 3, 1}, {`[,`, 1, 1}, {`{"a":1,}`, 7, 1}, {`{1`, 1, 1}, {`{"a" 1`, 5, 1}, {`[1 2`, 3, 1}, {`[}`, 1, 1},
		{`nul1`, 3, 0}, {`True`, 0, 0}, {`null0`, 4, 0}, {`{}{`, 2, 0},
		{`"\ud83dx"`, 7, 0}, {"\"\xc3\x28", 2, 0}, {"\"\n", 1, 0}, {"\xef\xbb\xbf", 0, 0}, {`[1][`, 3, 0},
	} {
		goesWrong(t, c.s, c.at, c.depth)
	}
}

// samples are values of every kind.
func samples() []string {
	return []string{"null", "true", "false", "0", "-0", "7", "-12.50e+3", "1E5", "1e-5", `""`, `"a"`, `"\u00e9\n"`, `"é😀"`, "[]", "[0]", "[[],{}]", "{}", `{"":0}`, `{"a":[],"b":{"c":null}}`}
}

// P16.2, P16.3: every kind of value by itself, and with blanks, or with bytes that are none, ahead and behind.
func TestBlanksAround(t *testing.T) {
	for _, v := range samples() {
		isText(t, v)
		isText(t, blanks+v+blanks)
		isBegun(t, "["+blanks+v+blanks, 1)
		isText(t, `{"k"`+blanks+":"+blanks+v+blanks+"}")
		for b := range 256 {
			c := string([]byte{byte(b)})
			if strings.Contains(blanks, c) {
				isText(t, c+v)
				isText(t, v+c)
				isText(t, "["+c+v+c+","+c+v+c+"]")
				isText(t, "{"+c+`"k"`+c+":"+c+v+c+","+c+`""`+c+":"+v+"}")
				isText(t, "["+c+"]")
				isText(t, "{"+c+"}")
				continue
			}
			for _, s := range []string{c + v, v + c, " " + c + v, v + " " + c, "[" + c + v, "[" + v + c, "{" + c + `"":` + v, `{""` + c + ":" + v, `{"":` + c + v, `{"":` + v + c} {
				sameAsReference(t, s)
			}
		}
	}
	for _, none := range []string{"\x00", "\x08", "\x0b", "\x0c", "\x0e", "\x1f", "\x21", "\x7f", "\x80", "\x85", "\xa0", "\u0085", "\u00a0", "\u2028", "\ufeff", "/", "#", "'"} {
		goesWrong(t, none+"1", 0, 0)
		goesWrong(t, "null"+none, 4, 0)
		goesWrong(t, "[1"+none+",", 2, 1)
		goesWrong(t, "["+none+"]", 1, 1)
		goesWrong(t, "{"+none+"}", 1, 1)
		goesWrong(t, `{"a"`+none+`:1}`, 4, 1)
		goesWrong(t, `{"a":`+none+`1}`, 5, 1)
	}
}

// place is where a number stands: what may come first, what behind a value, and what else is open.
type place struct {
	ahead, behind string
	depth         int
}

func places() []place {
	return []place{{"", blanks, 0}, {" ", blanks, 0}, {"[", blanks + ",]", 1}, {"[1,", blanks + ",]", 1}, {`{"a":`, blanks + ",}", 1}, {`[{"a": [`, blanks + ",]", 3}, {`[{"a":`, blanks + ",}", 2}}
}

// P16.2, P16.3: numbers that end, that go on, and that cannot end yet: which bytes may come behind them, of all.
func TestNumbers(t *testing.T) {
	for _, c := range []struct {
		s, next string
		ends    bool
	}{
		{"-", digits, false},
		{"0", ".eE", true}, {"-0", ".eE", true},
		{"1", digits + ".eE", true}, {"-9", digits + ".eE", true}, {"10", digits + ".eE", true}, {"-900", digits + ".eE", true}, {"1234567890123456789012345678901234567890", digits + ".eE", true},
		{"0.", digits, false}, {"-0.", digits, false}, {"10.", digits, false},
		{"0.0", digits + "eE", true}, {"1.9", digits + "eE", true}, {"-10.0000", digits + "eE", true},
		{"0e", digits + "+-", false}, {"1E", digits + "+-", false}, {"-0.5e", digits + "+-", false}, {"1.5E", digits + "+-", false},
		{"0e+", digits, false}, {"0e-", digits, false}, {"-1E+", digits, false}, {"1.0E-", digits, false},
		{"0e0", digits, true}, {"0e00", digits, true}, {"1E+5", digits, true}, {"-1.5e-007", digits, true}, {"1e99999999999999999999", digits, true},
	} {
		for _, p := range places() {
			s := p.ahead + c.s
			if c.ends && p.depth == 0 {
				isText(t, s)
			} else {
				isBegun(t, s, p.depth)
			}
			may := c.next
			if c.ends {
				may += p.behind
			}
			for b := range 256 {
				longer := s + string([]byte{byte(b)})
				if !strings.Contains(may, longer[len(s):]) {
					goesWrong(t, longer, len(s), p.depth)
				} else if scanned(longer).write != fine {
					t.Errorf("%q: %v", longer, scanned(longer))
				}
			}
		}
	}
}

// P16.2: what may begin a value, of all bytes.
func TestFirstBytes(t *testing.T) {
	for _, p := range places() {
		// Behind a list's bracket it may also be closed, which is tested below.
		if strings.HasSuffix(p.ahead, "[") {
			continue
		}
		for b := range 256 {
			c := string([]byte{byte(b)})
			s := p.ahead + c
			switch {
			case !strings.Contains(blanks+digits+`"-[{ntf`, c):
				goesWrong(t, s, len(p.ahead), p.depth)
			case strings.Contains("[{", c):
				isBegun(t, s, p.depth+1)
			case strings.Contains(digits, c) && p.depth == 0:
				isText(t, s)
			default:
				isBegun(t, s, p.depth)
			}
		}
	}
}

// P16.2: null, true and false, each of their letters wrong in turn.
func TestWords(t *testing.T) {
	for _, w := range []string{"null", "true", "false"} {
		for _, p := range places() {
			for n := 1; n < len(w); n++ {
				isBegun(t, p.ahead+w[:n], p.depth)
				for b := range 256 {
					if byte(b) != w[n] {
						goesWrong(t, p.ahead+w[:n]+string([]byte{byte(b)})+w[n+1:], len(p.ahead)+n, p.depth)
					}
				}
			}
			for b := range 256 {
				c := string([]byte{byte(b)})
				if !strings.Contains(p.behind, c) {
					goesWrong(t, p.ahead+w+c, len(p.ahead)+len(w), p.depth)
				}
			}
		}
		isText(t, w)
		goesWrong(t, strings.ToUpper(w), 0, 0)
		goesWrong(t, strings.ToUpper(w[:1])+w[1:], 0, 0)
		goesWrong(t, w[:1]+strings.ToUpper(w[1:]), 1, 0)
		goesWrong(t, w+w, len(w), 0)
		goesWrong(t, w[1:], 0, 0)
	}
	for _, s := range []string{"NaN", "Infinity", "undefined", "x", "'a'"} {
		goesWrong(t, s, 0, 0)
	}
	goesWrong(t, "-Infinity", 1, 0)
	goesWrong(t, "nan", 1, 0)
	goesWrong(t, "0x10", 1, 0)
	goesWrong(t, ".5", 0, 0)
	goesWrong(t, "--1", 1, 0)
	goesWrong(t, "1-", 1, 0)
	goesWrong(t, "1.5.5", 3, 0)
	goesWrong(t, "1e5e5", 3, 0)
	goesWrong(t, "1e5.5", 3, 0)
	goesWrong(t, "1 .5", 2, 0)
	goesWrong(t, "- 1", 1, 0)
	goesWrong(t, "tr ue", 2, 0)
}

// P16.2, P16.4: lists.
func TestLists(t *testing.T) {
	for _, s := range []string{"[]", "[ ]", "[0]", "[ 0 ]", "[0,1]", "[0 , 1]", "[[]]", "[[],[]]", "[{}]", `["a","b"]`, "[[[[]]]]", "[[0],[[1]],2]"} {
		isText(t, s)
	}
	for _, c := range []struct {
		s         string
		at, depth int
	}{
		{"[,", 1, 1}, {"[ ,", 2, 1}, {"[,1]", 1, 1}, {"[1,]", 3, 1}, {"[1, ]", 4, 1}, {"[1,,2]", 3, 1}, {"[1 2]", 3, 1}, {"[[] []]", 4, 1}, {"[1\"a\"]", 2, 1}, {"[null true]", 6, 1},
		{"[}", 1, 1}, {"[ }", 2, 1}, {"[1}", 2, 1}, {"[1 }", 3, 1}, {"[[}", 2, 2}, {"[[]}", 3, 1}, {"[{]", 2, 2}, {"[1:", 2, 1}, {"[:", 1, 1}, {"[\"a\":1]", 4, 1},
		{"]", 0, 0}, {" ]", 1, 0}, {"[]]", 2, 0}, {"[] ]", 3, 0}, {"[],", 2, 0}, {",", 0, 0}, {"1]", 1, 0}, {"1,2", 1, 0}, {"[][]", 2, 0}, {"[]1", 2, 0}, {"[-]", 2, 1}, {"[1.]", 3, 1}, {"[1e]", 3, 1}, {"[nul]", 4, 1},
	} {
		goesWrong(t, c.s, c.at, c.depth)
	}
	for depth, l := range [][]string{1: {"[", "[ ", "[1", "[1 ", "[1,", "[1, ", "[[]", "[[],", "[\"", "[\"a", "[\"a\"", "[t", "[-"}, 2: {"[[", "[0,[", "[[0,1", "[{", "[0,{"}, 3: {"[[[", "[[0],[[", "[[{"}} {
		for _, s := range l {
			isBegun(t, s, depth)
		}
	}
}

// P16.2, P16.4: maps.
func TestMaps(t *testing.T) {
	for _, s := range []string{"{}", "{ }", `{"a":0}`, `{ "a" : 0 }`, `{"a":0,"b":1}`, `{"a":0 , "b":1}`, `{"a":0,"a":0}`, `{"":{}}`, `{"a":{"a":{}},"b":[]}`, `{"a":"b"}`, `{"{":"}"}`} {
		isText(t, s)
	}
	for _, c := range []struct {
		s         string
		at, depth int
	}{
		{"{,", 1, 1}, {"{ ,", 2, 1}, {`{"a":1,}`, 7, 1}, {`{"a":1, }`, 8, 1}, {`{"a":1,,`, 7, 1}, {`{"a":1 "b":2}`, 7, 1}, {`{"a":1"b"`, 6, 1},
		{`{1`, 1, 1}, {`{n`, 1, 1}, {`{t`, 1, 1}, {`{-`, 1, 1}, {`{[`, 1, 1}, {`{{`, 1, 1}, {`{:`, 1, 1}, {`{a:1}`, 1, 1}, {`{'a'`, 1, 1}, {`{"a":1,2`, 7, 1}, {`{"a":1,[`, 7, 1}, {`{"a":1,{`, 7, 1}, {`{"a":1,null`, 7, 1},
		{`{"a" 1`, 5, 1}, {`{"a"1`, 4, 1}, {`{"a"}`, 4, 1}, {`{"a" }`, 5, 1}, {`{"a",`, 4, 1}, {`{"a""b"`, 4, 1}, {`{"a"]`, 4, 1}, {`{"a"[`, 4, 1}, {`{"a"{`, 4, 1}, {`{"a"=`, 4, 1},
		{`{"a":}`, 5, 1}, {`{"a": }`, 6, 1}, {`{"a":,`, 5, 1}, {`{"a"::`, 5, 1}, {`{"a":]`, 5, 1}, {`{"a":1:`, 6, 1}, {`{"a":"b":`, 8, 1},
		{`{]`, 1, 1}, {`{ ]`, 2, 1}, {`{"a":1]`, 6, 1}, {`{"a":1 ]`, 7, 1}, {`{"a":[}`, 6, 2}, {`{"a":{]`, 6, 2}, {`{"a":[]]`, 7, 1}, {`{"a":{}]`, 7, 1},
		{`}`, 0, 0}, {` }`, 1, 0}, {`{}}`, 2, 0}, {`{} }`, 3, 0}, {`{},`, 2, 0}, {`{}{`, 2, 0}, {`{}"`, 2, 0}, {`"a":1`, 3, 0}, {`:`, 0, 0}, {`1}`, 1, 0},
	} {
		goesWrong(t, c.s, c.at, c.depth)
	}
	for depth, l := range [][]string{1: {`{`, `{ `, `{"`, `{"a`, `{"a"`, `{"a" `, `{"a":`, `{"a": `, `{"a":1`, `{"a":1 `, `{"a":1,`, `{"a":1, `, `{"a":{}`, `{"a":[],`, `{"a":"b"`, `{"a":n`, `{"[{[{`},
		2: {`{"a":{`, `{"a":[`, `{"a":0,"b":{`, `{"a":{"b`, `{"a":["b"`}, 3: {`{"a":{"b":{`, `{"a":[{`, `{"a":[0,[`}} {
		for _, s := range l {
			isBegun(t, s, depth)
		}
	}
}

// P16.2: what stands behind a whole text, of all bytes: nothing but blanks.
func TestBehindText(t *testing.T) {
	for _, v := range samples() {
		for b := range 256 {
			c := string([]byte{byte(b)})
			if strings.Contains(blanks, c) {
				isText(t, v+" "+c)
				isText(t, v+c+c+c)
				continue
			}
			goesWrong(t, v+" "+c, len(v)+1, 0)
			goesWrong(t, v+"\n\n"+c+v, len(v)+2, 0)
		}
		for _, w := range samples() {
			goesWrong(t, v+" "+w, len(v)+1, 0)
		}
	}
}

// P16.2, P16.3, P16.4: every byte behind every beginning of some bytes, and behind some longer ones.
func TestEveryByte(t *testing.T) {
	var look func(s string, more int)
	look = func(s string, more int) {
		m := newModel()
		m.write(s)
		for b := range 256 {
			longer := s + string([]byte{byte(b)})
			next := *m
			next.take(byte(b))
			scans(t, longer, next.state())
			if next.err == nil && more > 0 && strings.IndexByte("[]{}:,\"\\ 0.-eEtud8\xed\xf4", byte(b)) >= 0 {
				look(longer, more-1)
			}
		}
	}
	look("", 3)
	for _, s := range []string{"[1,", `{"a":`, `{"a":1,`, `[{"":[`, `"\u`, `"\ud`, `"\ud8`, `"\uda0`, `"\udbff`, `"\udb00\`, `"\udb00\u`, `"\udb00\ud`, "\"\xe0", "\"\xed", "\"\xf0", "\"\xf0\x90", "\"\xf1", "\"\xf4", "tru", "1.5e", "[0.", `{"\u`, "{\"\xf4"} {
		look(s, 1)
	}
}

// P16.2, P16.3, P16.4: any strings.
func TestAnyStrings(t *testing.T) {
	r := rule{11}
	count := map[int]int{}
	for range 30000 {
		s := r.anyString(1 + r.below(4))
		want := wants(s)
		scans(t, s, want)
		count[want.write*10+want.close]++
	}
	if count[0] < 5000 || count[3] < 1000 || count[33] < 3000 {
		t.Errorf("%v", count)
	}
}
