package jsonwrite_test

import (
	"slices"
	"strconv"
	"strings"
	"testing"

	"crucible/ecma"
	"crucible/jsonread"
	"crucible/jsonwrite"
)

// only asks for the first string to be canonical, and for each of the others not to be; and so by themselves as in others.
func only(t *testing.T, right string, wrong ...string) {
	t.Helper()
	around := [][2]string{{"", ""}, {"[", "]"}, {"[0,", ",null]"}, {`{"k":`, "}"}, {`{"":[],"k":[{"l":`, `}],"m":""}`}}
	for _, a := range around {
		canon(t, a[0]+right+a[1], true)
		for _, s := range wrong {
			canon(t, a[0]+s+a[1], false)
		}
	}
}

// P18.4 at what the document names.
func TestKnownCanon(t *testing.T) {
	for _, s := range []string{"[1,2]", `{"a":1,"b":2}`, `"/"`, "0", "-1.5e-7", `"\n"`, "1e+21", "12345678901234567000"} {
		canon(t, s, true)
	}
	for _, s := range []string{"[1, 2]", `{"b":1,"a":2}`, `{"a":1,"a":2}`, `"\/"`, `"\u00e9"`, `"\u000A"`, `"\u000a"`, "1.0", "-0", "1e21", "1E+21", "0.10", "12345678901234567890", "", " ", "[1,]", "[", `{"a"}`, "nul", "\"\xff\""} {
		canon(t, s, false)
	}
}

// P18.4: words.
func TestCanonWords(t *testing.T) {
	only(t, "null", "Null", "NULL", "nul", "nulll", "nil", "undefined", "n", "null ", " null", "\tnull", "null\n", "nu ll", "\"null")
	only(t, "true", "True", "tru", "truee", "t", "yes", "true\r")
	only(t, "false", "False", "fals", "falsee", "f", "no", "\xef\xbb\xbffalse")
}

// P18.4: numbers that differ in a digit, a sign or a letter alone.
func TestCanonNumbers(t *testing.T) {
	only(t, "0", "-0", "+0", "00", "0.0", "0e0", "0.", ".0", "0e+0", "-0.0", "0E0", "-", "+", "--0")
	only(t, "1", "+1", "01", "1.0", "1.", "1e0", "1e+0", "10e-1", "0.1e1", "1.00", "1E0", "1_0", "0x1", "1n", "१")
	only(t, "-1", "-01", "-1.0", "- 1", "--1", "-1e0", "−1")
	only(t, "10", "1e1", "1e+1", "10.0", "010", "100e-1")
	only(t, "0.5", ".5", "0.50", "00.5", "5e-1", "0.05e1", "+0.5", "0;5", "0.5e0", "-.5")
	only(t, "-1.5e-7", "-1.50e-7", "-1.5E-7", "-1.5e-07", "-0.00000015", "-15e-8", "-.15e-6", "-1.5e−7", "-01.5e-7")
	only(t, "0.000001", "1e-6", "0.0000010", "1.0e-6")
	only(t, "1e-7", "0.0000001", "1.0e-7", "10e-8", "1e-07", "1E-7")
	only(t, "1e+21", "1e21", "1E+21", "1E21", "1e+021", "1.0e+21", "1000000000000000000000", "10e+20", "+1e+21")
	only(t, "100000000000000000000", "1e+20", "1e20", "100000000000000000001", "100000000000000000000.0", "99999999999999999999")
	only(t, "0.1", "0.10000000000000001", "0.1000000000000000055511151231257827021181583404541015625", "0.09999999999999999999")
	only(t, "0.30000000000000004", "0.3000000000000000444", "0.30000000000000003", "0.300000000000000040")
	only(t, "9007199254740992", "9007199254740993", "9007199254740992.0", "9.007199254740992e15", "9.007199254740992e+15")
	only(t, "12345678901234567000", "12345678901234567890", "12345678901234567001", "12345678901234567168", "1.2345678901234567e+19")
	only(t, "5e-324", "4e-324", "6e-324", "3e-324", "4.9e-324", "4.94e-324", "5.0e-324", "0.5e-323")
	only(t, "1.7976931348623157e+308", "1.7976931348623158e+308", "1.7976931348623159e+308", "1.7976931348623157e308", "17976931348623157e+292")
	for _, s := range []string{"1e309", "1e+309", "-1e+309", "1e999", "1e-400", "Infinity", "-Infinity", "NaN", "nan", "inf", "1e", "1e+", "1e-", "1.e5", "e5", "1.5.5", "1-1", "1+1"} {
		only(t, "7", s)
	}
	// Of each pattern one text, with fewer digits and with more none, nor with another sign of its power.
	r := rule{1809}
	for range 5000 {
		s := written(r.number())
		canon(t, s, true)
		for _, other := range []string{"0" + s, s + " ", " " + s, "+" + s, s + "e0", s + "e+0", s + "e-0", strings.ToUpper(s), strings.Replace(s, "e", "e0", 1), strings.Replace(s, "e+", "e", 1), strings.Replace(s, "e-", "e-0", 1), strings.Replace(s, ".", ".0", 1), s + "0", s + ".0", "-" + s, strings.TrimPrefix(s, "-"), r.digits(s), r.digits(s)} {
			canon(t, other, isCanonical(other))
		}
		at := r.below(len(s))
		other := s[:at] + strconv.Itoa(r.below(10)) + s[at+r.below(2):]
		canon(t, other, isCanonical(other))
	}
}

// P18.4: just the texts that ecma.Show tells of finite patterns are numbers.
func TestCanonShow(t *testing.T) {
	r := rule{1810}
	for range 10000 {
		bits := r.next()
		s := ecma.Show(bits)
		if got, want := jsonwrite.Canon(s), bits>>52&0x7ff != 0x7ff; got != want {
			t.Errorf("Canon(%q) = %v", s, got)
		}
	}
	for _, bits := range []uint64{0, 1 << 63, 1, plus - 1, plus, minus, noNumber} {
		if got, want := jsonwrite.Canon(ecma.Show(bits)), bits>>52&0x7ff != 0x7ff; got != want {
			t.Errorf("Canon(%q) = %v", ecma.Show(bits), got)
		}
	}
}

// P18.4: texts that differ in how a code point is told alone.
func TestCanonTexts(t *testing.T) {
	only(t, `""`, `"`, `''`, `" `, `"""`)
	only(t, `"a"`, `"\u0061"`, `"\a"`, `"a`, `a"`, `a`, `'a'`, `"a""`, "\"a\x00\"")
	only(t, `"/"`, `"\/"`, `"\u002f"`, `"\u002F"`)
	only(t, `"\""`, `"""`, `"\u0022"`, `"\"`)
	only(t, `"\\"`, `"\"`, `"\u005c"`, `"\u005C"`, `"\\\"`)
	only(t, `"\b"`, `"\u0008"`, "\"\b\"", `"\B"`)
	only(t, `"\t"`, `"\u0009"`, "\"\t\"", `"\T"`)
	only(t, `"\n"`, `"\u000a"`, `"\u000A"`, "\"\n\"", `"\N"`)
	only(t, `"\f"`, `"\u000c"`, `"\u000C"`, "\"\f\"", `"\F"`)
	only(t, `"\r"`, `"\u000d"`, `"\u000D"`, "\"\r\"", `"\R"`)
	only(t, `"\u0000"`, `"\0"`, "\"\x00\"", `"\u000"`, `"\u00000`, `"\U0000"`, `"\x00"`)
	only(t, `"\u000b"`, `"\u000B"`, `"\v"`, "\"\v\"")
	only(t, `"\u001f"`, `"\u001F"`, "\"\x1f\"")
	only(t, "\"\x7f\"", `"\u007f"`, `"\u007F"`)
	only(t, `" "`, `"\u0020"`, `"\ "`)
	only(t, `"é"`, `"\u00e9"`, `"\u00E9"`, "\"\xe9\"", "\"\xc3\"", "\"\xc3\xa9\xa9\"", "\"\xe0\x83\xa9\"")
	only(t, "\"\u2028\"", `"\u2028"`)
	only(t, `"ﬀ"`, `"\ufb00"`, `"\uFB00"`)
	only(t, `"😀"`, `"\ud83d\ude00"`, `"\uD83D\uDE00"`, "\"\xed\xa0\xbd\xed\xb8\x80\"", `"\ud83d"`, `"\ude00"`, "\"\xf0\x9f\x98\"")
	only(t, "\"\U0010ffff\"", `"\udbff\udfff"`, "\"\xf4\x90\x80\x80\"", "\"\xff\"", "\"\xc0\x80\"")
	only(t, `"e`+"\u0301"+`"`, `"e\u0301"`)
	only(t, `"\\u0061"`, `"\u005cu0061"`)
	// Each code point in the one way alone.
	for c := range rune(0x300) {
		right := `"` + said(c) + `"`
		canon(t, right, true)
		hex := strconv.FormatInt(0x10000+int64(c), 16)[1:]
		for _, form := range []string{`\u` + hex, `\u` + strings.ToUpper(hex), string(c)} {
			s := `"` + form + `"`
			canon(t, s, s == right)
			canon(t, `{`+s+`:0}`, s == right)
		}
		// Behind a backslash these letters say something, no others.
		canon(t, `"\`+string(c)+`"`, strings.ContainsRune(`"\bfnrt`, c))
	}
}

// P18.4: lists and maps that differ in a mark alone.
func TestCanonNested(t *testing.T) {
	only(t, "[]", "[", "]", "[,]", "[ ]", "[]]", "[[]", "()", "[}", "{]", "[],", ",[]")
	only(t, "[1,2]", "[1, 2]", "[1 ,2]", "[1 2]", "[1;2]", "[1,2,]", "[,1,2]", "[1,,2]", "[ 1,2]", "[1,2 ]", "[1,2", "1,2]", "[1,2}", "{1,2}", "[1:2]", "[1,\n2]", "[1,2]]", "[1,2]3")
	only(t, "{}", "{", "}", "{,}", "{ }", "{}}", "{{}", "{]", "{1}", "{null}", `{""}`)
	only(t, `{"a":1}`, `{"a": 1}`, `{"a" :1}`, `{ "a":1}`, `{"a":1 }`, `{"a":1,}`, `{,"a":1}`, `{"a"}`, `{"a":}`, `{:1}`, `{"a",1}`, `{"a"1}`, `{a:1}`, `{'a':1}`, `{1:1}`, `{null:1}`, `{["a"]:1}`, `{"a":1`, `"a":1}`, `["a":1]`, `{"a":1]`, `{"a"::1}`, `{"\u0061":1}`, `{"a":1.0}`, `{"a":1}}`)
	only(t, `{"a":1,"b":2}`, `{"b":2,"a":1}`, `{"a":1, "b":2}`, `{"a":1,"b":2,}`, `{"a":1,,"b":2}`, `{"a":1 "b":2}`, `{"a":1,"a":2}`, `{"a":1,"a":1}`, `{"a":1;"b":2}`, `{"b":1,"b":2}`, `{"a":1,"\u0062":2}`)
	only(t, `{"a":1,"b":2,"c":3}`, `{"a":1,"c":3,"b":2}`, `{"b":2,"a":1,"c":3}`, `{"c":3,"b":2,"a":1}`, `{"a":1,"b":2,"b":2}`, `{"a":1,"b":2,"a":3}`, `{"a":1,"a":1,"b":2}`)
	only(t, `[{"b":1},{"a":1}]`, `[{"b":1,"a":1},{}]`, `[{"b":1} ,{"a":1}]`)
	only(t, `{"b":{"b":1},"c":{"a":1}}`, `{"b":{"b":1,"a":2}}`, `{"c":{"a":1},"b":{"b":1}}`)
	for _, s := range []string{"1 2", "[] []", "{}{}", "null;null", "//", "/**/1", "1//", "[1]#", "<a>", "\xef\xbb\xbf[]", "\x00", "[]\x00", "\x82\x01\x02", "\xa1\x61a\x01", "[1,2]\n", "undefined", "a", "\"\\"} {
		only(t, "[]", s)
	}
}

// P18.4: the order of keys is that by code units, not that by bytes.
func TestCanonKeys(t *testing.T) {
	for _, keys := range [][]string{
		{"", "a", "aa", "b"}, {"A", "a"}, {"😀", "ﬀ"}, {"\U00010000", "\ue000"}, {"\U0010ffff", "\uffff"}, {"\ud7ff", "\U00010000", "\U0010ffff", "\ue000", "\uffff"}, {"a\U00010000", "a\uffff"}, {"\x00", "\x01", "\n", "\"", "\\", "a", "\x7f", "é", "ﬀ"}, {"1", "10", "2"}, {"Z", "\\", "a"}, {"\r", "1", "\u0080", "ö", "€", "😀", "\ufb33"}, {"\U00010000\U00010000", "\U00010000\uffff", "\uffff\U00010000", "\uffff\uffff"},
	} {
		made := func(keys []string) string {
			var parts []string
			for i, key := range keys {
				parts = append(parts, quoted(key)+":"+strconv.Itoa(i))
			}
			return "{" + strings.Join(parts, ",") + "}"
		}
		canon(t, made(keys), true)
		for i := range keys {
			for j := range i {
				other := slices.Clone(keys)
				other[i], other[j] = other[j], other[i]
				canon(t, made(other), false)
				other[i] = other[j]
				canon(t, made(other), false)
			}
			canon(t, made(slices.Insert(slices.Clone(keys), i, keys[i])), false)
			canon(t, made(slices.Delete(slices.Clone(keys), i, i+1)), true)
		}
	}
}

// P18.4: all short strings of some bytes.
func TestCanonShort(t *testing.T) {
	const bytes = `01-.e"\na[]{},: `
	right := 0
	var all func(s string, more int)
	all = func(s string, more int) {
		got := jsonwrite.Canon(s)
		if got != isCanonical(s) {
			t.Errorf("Canon(%q) = %v", s, got)
		}
		if got {
			right++
		}
		if more > 0 {
			for i := range len(bytes) {
				all(s+bytes[i:i+1], more-1)
			}
		}
	}
	all("", 5)
	if right < 500 {
		t.Errorf("%d canonical", right)
	}
	// And of numbers alone longer ones.
	var numbers func(s string, more int)
	numbers = func(s string, more int) {
		if got := jsonwrite.Canon(s); got != isCanonical(s) {
			t.Errorf("Canon(%q) = %v", s, got)
		}
		if more > 0 {
			for _, b := range []string{"0", "1", "2", "-", "+", ".", "e"} {
				numbers(s+b, more-1)
			}
		}
	}
	numbers("", 6)
}

// P18.4: canonical texts, and such that were changed in some bytes or are written in another way.
func TestCanonAny(t *testing.T) {
	r := rule{1811}
	for range 10000 {
		s := r.anyString(3)
		canon(t, s, isCanonical(s))
		v := r.value(3, false)
		canon(t, written(v), true)
		s = r.loosely(v)
		canon(t, s, isCanonical(s))
		if read, err := jsonread.Read(s); err != nil || !same(read, v) {
			t.Fatalf("%q is %s, %v, want %s", s, show(read), err, show(v))
		}
	}
	for range 30000 {
		s := make([]byte, r.below(12))
		for i := range s {
			s[i] = r.wild()
		}
		canon(t, string(s), isCanonical(string(s)))
	}
}
