package jsonread_test

import (
	"strings"
	"testing"

	"crucible/api"
	"crucible/jsonread"
)

// failsAt: ErrInput at the place that a ^ marks.
func failsAt(t *testing.T, marked string) {
	t.Helper()
	ahead, behind, ok := strings.Cut(marked, "^")
	if !ok || strings.Contains(behind, "^") {
		t.Fatalf("one mark is wanted: %q", marked)
	}
	fails(t, ahead+behind, input, len(ahead))
}

// P17.1 at what the document names.
func TestKnownFaults(t *testing.T) {
	for _, s := range []string{
		"^", " ^", "nul^", "nul^L", "[1,^]", "[1 ^2]", `{"a" ^1}`, "0^1", "1.^e5", "1 ^x", "[1]^]", "^\xef\xbb\xbf1", `"\ud83d^x"`, `"\ud^e00"`, `"a^`, "\"a^\n",
		"[^1e999, 1e999]", `{"a": 1, ^"\u0061": 2}`, `[{"a": 1, ^"a": 1e999}]`, "[1e999, ^x", `{"a": 1, "a": 2^`,
	} {
		failsAt(t, s)
	}
}

// P17.1: keys that stand twice, as they are written and by unlike escapes.
func TestTwice(t *testing.T) {
	for _, s := range []string{
		`{"a":1,^"a":2}`, `{"a":1,^"a":1}`, `{"":1,^"":2}`, `{"a":1, ^"a" :2}`, ` { "a" : 1 , ^"a" : 2 } `, `{"a":1,"b":2,^"a":3}`, `{"a":1,"b":2,^"b":3,"a":4}`, `{"b":1,"a":2,"c":3,^"a":4}`, `{"a":1,^"a":2,"a":3}`, `{"a":null,^"a":null}`,
		`{"a":1,^"\u0061":2}`, `{"\u0061":1,^"a":2}`, `{"\u0061":1,^"\u0061":2}`, `{"/":1,^"\/":2}`, `{"\/":1,^"\u002f":2}`, `{"\u002F":1,^"\u002f":2}`, `{"\n":1,^"\u000a":2}`, `{"\u000A":1,^"\n":2}`, `{"\"":1,^"\u0022":2}`, `{"\\":1,^"\u005C":2}`, `{"\b":1,^"\u0008":2}`, `{"\t":1,^"\u0009":2}`, `{"\f":1,^"\u000c":2}`, `{"\r":1,^"\u000D":2}`,
		`{"é":1,^"\u00e9":2}`, `{"\u00E9":1,^"\u00e9":2}`, `{"😀":1,^"\ud83d\ude00":2}`, `{"\uD83D\uDE00":1,^"\ud83d\ude00":2}`, `{"a😀b":1,^"\u0061😀\u0062":2}`, `{"\u0000":1,^"\u0000":2}`,
	} {
		failsAt(t, s)
		failsAt(t, "["+s+"]")
		failsAt(t, `{"a":[`+s+"]}")
		failsAt(t, `{"a":{"b":0},"b":`+s+`,"c":0}`)
	}
	for _, s := range []string{
		`{"a":1,"A":2}`, `{"a":1,"aa":2,"":3}`, `{"":1,"\u0000":2,"\u0000\u0000":3}`, `{"1":1,"1.0":2,"01":3}`, `{"\u00e9":1,"e\u0301":2,"e":3}`, `{"\\u0061":1,"a":2}`, `{"\\":1,"/":2}`, `{"n":1,"\n":2,"\\n":3}`, `{" a":1,"a":2,"a ":3}`, `{"\u212b":1,"\u00c5":2}`, `{"ss":1,"ß":2}`, `{"null":1,"":2}`,
	} {
		v, err := jsonread.Read(s)
		if err != nil || len(v.Kids) != 2*strings.Count(s, ":") {
			t.Errorf("Read(%q) = %s, %v", s, show(v), err)
		}
		sameAsReference(t, s)
	}
}

// P17.1: only an earlier key of the same object counts, and each of those.
func TestTwiceWithin(t *testing.T) {
	for _, s := range []string{
		`{"a":{"b":1,^"b":2},"a":1}`, `{"a":{"a":1},^"a":1}`, `{"a":{"a":1,^"a":2},"a":3}`, `{"a":{"b":1},^"a":{"b":1}}`, `{"a":[{"a":1},{"a":2}],^"a":1}`, `[{"a":1},{"a":2,^"a":3}]`, `[{"a":1},{"a":2},{"b":{"a":1},"a":2,^"b":0}]`, `{"a":{"b":{"c":1,"a":2,^"c":3}},"a":1}`,
		`{"a":{"b":0,"c":0},"b":{"a":0,"c":0},"c":0,^"b":0}`, `{"a":"a","b":"a",^"a":"b"}`, `{"a":["a","a"],"b":["b"],^"b":0}`,
	} {
		failsAt(t, s)
	}
	for _, s := range []string{`{"a":{"a":{"a":1}}}`, `{"a":{"b":1},"b":{"a":1}}`, `[{"a":1},{"a":1},[{"a":1}]]`, `{"a":"a","b":"b"}`, `{"a":[{"a":1},{"a":1}],"b":{"a":1,"b":1}}`, `["a","a"]`} {
		if _, err := jsonread.Read(s); err != nil {
			t.Errorf("Read(%q): %v", s, err)
		}
		sameAsReference(t, s)
	}
}

// P17.1: a number that is too great and a key that stands twice, in either order and within one another.
func TestBoth(t *testing.T) {
	for _, s := range []string{
		`[^1e999,{"a":1,"a":2}]`, `[{"a":1,^"a":2},1e999]`, `{"a":^1e999,"a":2}`, `{"a":^1e999,"a":1e999}`, `{"a":1,^"a":1e999}`, `{"a":1,^"a":2,"b":1e999}`, `{"a":1,"b":^1e999,"a":2}`, `{"a":{"b":[^-1e999]},"a":2}`, `{"a":{"b":1,^"b":[1e999]},"a":2}`, `{"a":[{"b":^1e999,"b":1}],"a":1}`,
		`{"a":0,^"a":{"b":1e999}}`, `{"a":0,^"a":{"b":0,"b":0}}`, `{"a":0,"b":{"c":0,^"c":1e999,"d":1e999},"a":1e999}`, `[[[0,1,[^1e309]]],1e309]`, `[1,2,^-1e309,1e309]`, `{"1e999":0,^"1e999":1e999}`, `["1e999","-1e999",^1e999]`,
		// A lesser place tells, not a lesser depth or an earlier end.
		`[{"a":[{"b":[^1e999]}],"a":0},1e999]`, `{"x":{"a":0,^"a":0},"x":0}`, `{"x":{"a":0,"b":^1e999,"a":0},"x":1e999}`,
	} {
		failsAt(t, s)
		failsAt(t, " \n"+s+" ")
		failsAt(t, "[0,"+s+",1e999]")
	}
}

// P17.1: what the scanner tells is first, also where it stands behind.
func TestScannerFirst(t *testing.T) {
	for _, wrong := range []string{"1e999", "-1e999", `{"a":1,"a":2}`, `{"a":1,"\u0061":1e999}`, `[[1e999],{"":0,"":0}]`} {
		for _, s := range []string{"[" + wrong + ",^]", "[" + wrong + "^}", "[" + wrong + "^", "[" + wrong + ", ^", "[" + wrong + ", ^x", wrong + " ^x", wrong + "^]", wrong + "^\x00", "[" + wrong + ",nul^1]", "[" + wrong + `,"\^x"]`, "[" + wrong + ",\"^\xff\"]", "[" + wrong + ",0^1]", "[" + wrong + `,{"a"^}]`, "[" + wrong + `,{"a":0,"a":0^`, `{"a":` + wrong + "^", `{"a":` + wrong + `,"a"^`, `{"a":` + wrong + ",^1:0}"} {
			failsAt(t, s)
		}
		deep := strings.Repeat("[", 128)
		fails(t, "["+wrong+","+deep, limit, len(wrong)+2+127)
		fails(t, "["+wrong+","+deep+strings.Repeat("]", 129), limit, len(wrong)+2+127)
		fails(t, "["+wrong+","+deep+"x", limit, len(wrong)+2+127)
	}
	failsAt(t, `{"a":1,"a"^`)
	failsAt(t, `{"a":1,"a^`)
	failsAt(t, `{"a":1,"a"^}`)
	failsAt(t, "[1e999^x")
	failsAt(t, "1e999^.")
	failsAt(t, "0^1e999")
}

// P17.1: a text that is not ended, cut at each place.
func TestNotEnded(t *testing.T) {
	r := rule{1706}
	for range 200 {
		s := "[" + r.made(3, true).s + "]"
		for n := range len(s) {
			fails(t, s[:n], input, n)
			fails(t, " "+s[:n], input, n+1)
		}
	}
	for _, s := range []string{"null", "true", "false", `"a"`, `"\u0061"`, "[]", "{}", `{"a":0}`} {
		for n := range len(s) {
			fails(t, s[:n], input, n)
		}
	}
	for _, s := range []string{"-^", "1.^", "1e^", "1e+^", "1E-^", "[1.^", `{"a":-^`} {
		failsAt(t, s)
	}
}

// R2: with an error the value is the zero struct, whatever had been read by then.
func TestZeroBesideError(t *testing.T) {
	for _, s := range []string{"", "x", "1 x", `[1,"a",[2],{"a":0}`, `{"a":[1,2,3],"b":1e999}`, "[[[1e999]]]", "-1e999", `{"a":"b","a":"c"}`, `["a",1.5,{"b":0,"b":0}]`, strings.Repeat("[", 129), strings.Repeat("1", 1048577)} {
		v, err := jsonread.Read(s)
		if err == nil || v.Kids != nil || v.Int.Mag != nil || !same(v, api.Value{}) {
			t.Errorf("Read(%q) = %s, %v", cut(s), show(v), err)
		}
	}
}
