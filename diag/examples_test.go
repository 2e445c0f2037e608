package diag_test

import (
	"strings"
	"testing"

	"crucible/diag"
	"crucible/value"
)

// P22.1: the chapter's examples of Show, row by row.
func TestKnownShow(t *testing.T) {
	shows(t, list(null, yes, num(1), num(-5), float(half3), float(noNumber)), "[null, true, 1, -5, 1.5, NaN]")
	shows(t, object(num(1), text("é"), raw("\x00\xff"), list()), `{1: "é", h'00ff': []}`)
	shows(t, tag(1, num(5)), "1(5)")
	shows(t, simple(23), "undefined")
	shows(t, simple(0), "simple(0)")
	shows(t, ext(-1, "ab"), "ext(-1, h'6162')")
	if s, err := diag.Show(power(4095)); len(s) != 1233 || strings.Trim(s, "0123456789") != "" || err != nil {
		t.Errorf("2 to the power of 4095 is %q, %v", cut(s), err)
	}
	shows(t, power(4096), "0x1"+strings.Repeat("0", 1024))
	refused(t, none, arg, "")
}

// P22.2: the chapter's examples of what is read, row by row.
func TestKnownRead(t *testing.T) {
	reads(t, " [1, /one/ 2]", list(num(1), num(2)))
	reads(t, `{"b": 1, "a": 2}`, object(text("a"), num(2), text("b"), num(1)))
	reads(t, "1.0", num(1))
	reads(t, "-0", num(0))
	reads(t, "-0x00fF", num(-255))
	reads(t, "1e400", float(plus))
	reads(t, "1e-400", num(0))
	reads(t, "123456789012345678901", whole("123456789012345678901"))
	reads(t, "123456789012345678901.0", whole("123456789012345683968"))
	reads(t, "h'0aF0'", raw("\x0a\xf0"))
	reads(t, "h''", raw(""))
	reads(t, "18446744073709551615(null)", tag(1<<64-1, null))
	reads(t, "1/x/", num(1))
	reads(t, "simple(201)", simple(201))
	reads(t, "ext(5,h'61')", ext(5, "a"))
	reads(t, strings.Repeat("[", 128)+strings.Repeat("]", 128), nested(127, list()))
}

// P22.2: the chapter's examples of what is refused, row by row.
func TestKnownFaults(t *testing.T) {
	for _, s := range []string{
		"^", "[1^", "1 ^2", "0^1", "/x^",
		"2^(1)", "18446744073709551616^(1)", "1 ^(1)", "h'0^'", "nul^1",
		"simple(20^)", "simple(2^6", "ext(12^8", "ext(-^0",
		"{1: 2, ^1.0: 3}", "{1: 2, 1^", `{"a":1,^"a"]`, "{1: 2, ^1]", "{2: 1, ^2(", "{1: 2, 1(^",
	} {
		failsAt(t, s)
	}
	fails(t, strings.Repeat("[", 129)+strings.Repeat("]", 129), limit, 128)
	fails(t, strings.Repeat("[", 129), limit, 128)
	fails(t, strings.Repeat("[", 128)+"1(", limit, 128)
}

// Other chapters' examples are told as people write them: what is written so is what is shown.
func TestKnownElsewhere(t *testing.T) {
	for _, s := range []string{
		"5", `[1, {"a": null}]`, "1(2)", "[]", "[[], 1(2)]", `{"a": 2, "b": 1}`, "null", "false", "0(5)", "1(0)", "ext(-1, h'')", "ext(0, h'')", "[null]", "[0, 0]",
		"-18446744073709551616", "-18446744073709551617", `"é"`, `"ab"`, "h'010203'", "h''", "[1, [2, 3], [4]]", "{1: 2}", "undefined", "simple(32)", "simple(0)", "1(1)", "1.5", "NaN", "-Infinity", "Infinity", "[1, 2.5, 0]", "{}", `{"a": [true], "b": "é\n"}`, "1000000000000000000000", "9007199254740992",
	} {
		v, err := diag.Read(s)
		if err != nil || value.Check(v) != nil {
			t.Errorf("Read(%q) = %s, %v", s, dump(v), err)
		}
		shows(t, v, s)
		shows(t, list(v, tag(7, v), object(v, v)), "["+s+", 7("+s+"), {"+s+": "+s+"}]")
	}
}

// DOC.md's examples of the whole, as far as their numbers, texts and keys are told here too.
func TestKnownOfTheWhole(t *testing.T) {
	v, err := diag.Read(`{"b": 1.0, "a": [1e2, -0, 0.1e1]}`)
	if err != nil {
		t.Fatal(err)
	}
	shows(t, v, `{"a": [100, 0, 1], "b": 1}`)
	reads(t, "1e21", whole("1000000000000000000000"))
	reads(t, "123456789012345678901234567890.0", whole("123456789012345677877719597056"))
	reads(t, `"\u00e9\ud83d\ude00\/\u000a"`, text("é😀/\n"))
	failsAt(t, `"\ud83d^"`)
	failsAt(t, `{"a": 1, ^"\u0061": 2}`)
	// By the order of values keys rise by their bytes.
	reads(t, `{"😀": 1, "ﬀ": 2, "é": 3}`, object(text("é"), num(3), text("ﬀ"), num(2), text("😀"), num(1)))
}
