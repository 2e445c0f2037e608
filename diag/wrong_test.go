package diag_test

import (
	"strings"
	"testing"

	"crucible/escape"
)

// P22.2: the first byte with which no text goes on, in every place.
func TestWrong(t *testing.T) {
	for _, s := range []string{
		"^", " ^", "\t\n\r ^", "//^", "/x/ ^", "/^", "/x^", " / x ^", "/x/ /^", "//^x", "^x", "^?", "^\x00", "^\xff", "^\xef\xbb\xbf1", "^\u00a01", "^\v", "^\f", "^,", "^]", "^}", "^)", "^:", "^'a'", "^+1", "^.5", "^#", "^True", "n^1", "n^an", "^inf",
		"-^", "-^ 1", "-^-1", "-^+1", "-^.5", "-^x", "-^n", "-^N", "-^i", "-^]", "-I^", "-I^1", "-Infinit^", "-Infinity^x", "-^\"a\"", "-^(", "-^/x/1",
		"0^0", "0^1", "-0^0", "0x^", "0x^g", "0x^ ", "0x^-1", "0x^.", "0x1^.0", "0x1^g", "0x1^x", "0x1^p1", "0^X1", "1^x1", "0x0^x0", "-0x^", "-0x^]", "-0^X",
		"1.^", "1.^.", "1.^e1", "1.^ 5", "1.^]", "1.5^.", "1.5^x", "1e^", "1e^e", "1e^.", "1e+^", "1e-^", "1e+^+", "1e+^ ", "1e5^.", "1e5^e", "1e5^+", "1E^x", "0.^", "0e^", "1^+1", "1^-1", "1^_000", "1^f", "1 ^2", "1/x/^2", "1 ^.5", "1^\"", "1^[", "1^{", "1^]", "1^,", "1^:",
		"[^", "[^,", "[^}", "[^)", "[^:", "[1^", "[1^:", "[1^}", "[1^)", "[1^[", "[1 ^2", "[1,^", "[1,^,", "[1,^]", "[1, ^]", "[1,/x/^]", "[[^", "[[]^", "[[]^[", "[]^]", "[]^[", "[1]^,", "[/x^", "[//^", "[1,2^", "[1 /x^", "[[1,2],[3^}", "[ ^",
		"{^", "{^,", "{^:", "{^]", "{1^", "{1^}", "{1^,", "{1 ^", "{1 ^}", "{1:^", "{1:^}", "{1:^,", "{1:^:", "{1: ^", "{1:2^", "{1:2^:", "{1:2^]", "{1:2 ^3", "{1:2,^", "{1:2,^}", "{1:2,^,", "{1:2, ^", "{1:2,3^", "{1:2,3^}", "{1:2,3^,", "{}^}", "{}^{", "{1:2}^,", "{\"a\"^", "{\"a\"^=", "{\"a\" ^1", "{[]^", "{[]^}", "{/x^", "{1/x^", "{1:/x^", "{1:2/x^", "{null ^null", "{null^null",
		`"^`, `"a^`, `"\^`, `"\^x"`, `"\u^`, `"\u^x`, `"\u00^g0"`, `"\ud83d^"`, `"\ud83d\^n"`, `"\ud83d\u^0041"`, "\"^\n", "\"\xc3^\x28", "\"^\xff", "\"\xe2\x82^", "\"a\"^b", "\"a\"^\"", "\"a\" ^\"b\"", "[\"^", "[\"a^", "[\"a\"^", "[\"\\^]",
		"n^", "nul^", "nul^L", "null^0", "null^null", "tru^", "tr^Ue", "fals^", "undefine^", "undefined^(", "Infinit^", "Infinity^0", "N^", "Na^n", "NaN^N", "N^AN", "[null^null", "h^", "s^", "e^",
	} {
		failsWhereMarked(t, s)
	}
}

// failsWhereMarked asks by the words, by the reference, and within a list.
func failsWhereMarked(t *testing.T, s string) {
	t.Helper()
	ahead, behind, ok := strings.Cut(s, "^")
	if !ok {
		t.Fatalf("no place in %q", s)
	}
	bare, at := ahead+behind, len(ahead)
	fails(t, bare, input, at)
	sameAsReference(t, bare)
	for _, ahead := range []string{" ", "/x/"} {
		fails(t, ahead+bare, input, at+len(ahead))
	}
	for _, ahead := range []string{"[", "{null: 5, 7(", "{[", "/x/ 4("} {
		sameAsReference(t, ahead+bare)
	}
}

// wholeTexts have something of everything.
var wholeTexts = []string{
	"null", "false", "true", "undefined", "Infinity", "-Infinity", "NaN", "0", "-0", "10", "0x0fF", "-0xA1", "1.50", "-0.5e+10", "3E-4", "2e7", `"a\n\u00e9\ud83d\ude00é😀/"`, "h''", "h'0aF0'", "[]", "[ ]", "[1, null ,\"x\"/r/]", "{}", "{ /x/ }", "{1: 2, \"a\" :h'' , [0]:{}}", "{1:1,2:2,3(1):3}", "{0:1,0(2):3,0x1:4}",
	"0(1)", "1( /x/ [2] )", "18446744073709551615(-1)", "20(2)", "3000(simple(0))", "simple(0)", "simple(19)", "simple(23)", "simple(201)", "simple(255)", "simple(39)", "ext(0,h'')", "ext(-128 , h'00' )", "ext(127/x/,/y/h'fF'/z/)", "ext(-1,h'a0')", " \t\r\n/ \xff/ 1 /2/", "{undefined:1,simple(23):2}", "{1:{1:{1:1}}}", "[{1:2},{1:2}]", "{[1]:1,[2]:2}", "{true:1,false:2,null:3}", "{h'61':1,\"a\":2,ext(0,h'61'):3}",
}

// P22.2: every byte behind every beginning of a text, by itself and with something behind it.
func TestWrongEveryByte(t *testing.T) {
	asked := map[string]bool{}
	for _, s := range wholeTexts {
		for n := range len(s) + 1 {
			for b := range 256 {
				begun := s[:n] + string([]byte{byte(b)})
				if asked[begun] {
					continue
				}
				asked[begun] = true
				sameAsReference(t, begun)
			}
			if t.Failed() {
				return
			}
			sameAsReference(t, s[:n])
			for _, behind := range []string{"(", "1", " 1", "]", ")", ":", "/", "/x/", "e", "x1", "''", "\"", "0(1)", "]]", "{1:1,1:1}", "/x/]", ",1", ":1,", "ull", "Infinity", "\xc3\xa9"} {
				sameAsReference(t, s[:n]+behind)
			}
		}
	}
}

// P22.2: every string of up to three of the bytes at which something turns.
func TestWrongShort(t *testing.T) {
	const letters = "\n !\"'()+,-./0123489:EINX[\\]aefhnstux{}\xc3"
	for i := range len(letters) {
		for j := range len(letters) {
			sameAsReference(t, letters[i:i+1]+letters[j:j+1])
			for k := range len(letters) {
				sameAsReference(t, letters[i:i+1]+letters[j:j+1]+letters[k:k+1])
			}
		}
	}
}

// P22.2: any string.
func TestWrongAny(t *testing.T) {
	r := rule{2231}
	for range 12000 {
		sameAsReference(t, r.anyString(3))
		if t.Failed() {
			return
		}
	}
}

// P22.2: where a literal goes wrong, chapter 10 says.
func TestWrongLiterals(t *testing.T) {
	r := rule{2232}
	wrong := 0
	for range 20000 {
		s := []byte(r.literal(r.text()))
		for range 1 + r.below(3) {
			s[r.below(len(s))] = r.wild()
		}
		s[0] = '"'
		literal := string(s)
		_, _, err := escape.Scan(literal, 0)
		if err == nil {
			continue
		}
		wrong++
		e, _ := tells(err)
		for _, ahead := range []string{"", " /\"/ ", "[", "[null, ", "{", "{1: ", "5("} {
			fails(t, ahead+literal, input, len(ahead)+e.at)
		}
	}
	if wrong < 4000 {
		t.Errorf("%d literals go wrong", wrong)
	}
}
