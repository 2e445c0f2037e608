package diag_test

import (
	"fmt"
	"slices"
	"strings"
	"testing"

	"crucible/api"
	"crucible/diag"
	"crucible/value"
)

// opening is the beginning of a container, up to where another one may stand, with what closes it.
type opening struct{ ahead, behind string }

func openings() []opening {
	return []opening{{"[", "]"}, {"[null,", "]"}, {"[ /[/", ",[]]"}, {"{", ":1}"}, {"{1:", "}"}, {"{2:[],1 : ", ", 3 : {}}"}, {"0(", ")"}, {"18446744073709551615( ", "/(/)"}, {"255(", " )"}}
}

// P22.2: MaxDepth containers of any sort in one another, and one more.
func TestDeep(t *testing.T) {
	if api.MaxDepth != 128 {
		t.Fatal("another limit")
	}
	r := rule{2251}
	all := openings()
	for i := range 60 {
		ahead, behind := "", ""
		for n := range 128 {
			o := pick(&r, all...)
			if i < len(all) {
				o = all[i]
			}
			if n == 127 {
				// No further container stands beside where the next would be too deep.
				o = pick(&r, opening{"[", "]"}, opening{"{", ":1}"}, opening{"{1:", "}"}, opening{"7(", ")"})
			}
			ahead, behind = ahead+o.ahead, o.behind+behind
		}
		for _, s := range []string{"null", "5", "-1.5e3", `"[{1("`, "h'5b'", "simple(5)", "ext(5,h'5b')", "ext(-1 , h'' )", "NaN", "/[[/6"} {
			v, err := diag.Read(ahead + s + behind)
			if err != nil || value.Depth(v) != 128 || value.Check(v) != nil {
				t.Errorf("Read(%q): the depth is %d, %v", ahead+s+behind, value.Depth(v), err)
			}
		}
		for _, s := range []string{"[", "[]", "[1", "{", "{}", "{1:1", "[?", "[)", "{]", "[\x00", "[ ]"} {
			fails(t, ahead+s, limit, len(ahead))
			fails(t, ahead+s+behind, limit, len(ahead))
			fails(t, ahead+" /x/ "+s+behind, limit, len(ahead)+5)
		}
		// Of a tag it is told with the bracket, At its number.
		for _, s := range []string{"0(", "1(", "1()", "1(1)", "18446744073709551615(null)", "20(", "300(1(1))", "1(?", "1(/x"} {
			fails(t, ahead+s, limit, len(ahead))
			fails(t, ahead+s+behind, limit, len(ahead))
			fails(t, ahead+" /x/ "+s+behind, limit, len(ahead)+5)
		}
		// What goes wrong ahead of that is told otherwise.
		for _, s := range []string{"^", "1^", "20^", "2^(", "3^(1)", "18446744073709551616^(", "-1^(", "-0^(", "1.0^(", "0x1^(", "0^0(", "1 ^(", "^(", "^?", "simple(1^(", "ext(1,^[", "ext(1,h''^(", "\"[^", "h'^["} {
			failsAt(t, ahead+s)
		}
	}
}

// P22.2: the whole of it against the reference, too deep in one place or not.
func TestDeepAny(t *testing.T) {
	r := rule{2252}
	codes := map[int]int{}
	for range 120 {
		ahead, behind := "", ""
		for range 124 + r.below(5) {
			o := pick(&r, openings()...)
			ahead, behind = ahead+o.ahead, o.behind+behind
		}
		s := ahead + r.anyString(4) + behind
		v, e := wants(s)
		answers(t, s, v, e)
		codes[e.code]++
	}
	if codes[0] < 5 || codes[input] < 10 || codes[limit] < 10 {
		t.Errorf("%v", codes)
	}
}

// P22.2: what has been closed is open no more, and a key that stands twice at the limit is told as elsewhere.
func TestDeepAgain(t *testing.T) {
	deep, undeep := strings.Repeat("[", 127), strings.Repeat("]", 127)
	reads(t, "["+deep+undeep+","+deep+"1"+undeep+","+deep+undeep+"]", list(nested(126, list()), nested(127, num(1)), nested(126, list())))
	reads(t, "{"+deep+undeep+":"+deep+"1"+undeep+"}", object(nested(126, list()), nested(127, num(1))))
	reads(t, "1("+deep+undeep+")", tag(1, nested(126, list())))
	tags, closing := strings.Repeat("6(", 127), strings.Repeat(")", 127)
	v, err := diag.Read("[" + tags + "5" + closing + "," + tags + "6" + closing + "]")
	if err != nil || value.Depth(v) != 128 {
		t.Errorf("%s, %v", dump(v), err)
	}
	ahead := "[" + deep + undeep + "," + deep
	fails(t, ahead+"[", limit, len(ahead))
	fails(t, ahead+"{", limit, len(ahead))
	fails(t, ahead+"4(", limit, len(ahead))
	fails(t, ahead+undeep+"]]", input, len(ahead+undeep)+1)
	ahead = deep + "{1:1,"
	fails(t, ahead+"1(", limit, len(ahead))
	fails(t, ahead+"1]", input, len(ahead))
	fails(t, ahead+"1[", input, len(ahead))
	fails(t, ahead+"2(", input, len(ahead)+1)
	fails(t, ahead+"2[", input, len(ahead)+1)
	fails(t, deep+"{2:1,2(", input, len(deep)+5)
	fails(t, deep+"{null:1,null[", input, len(deep)+8)
	fails(t, deep+"{1:1,2:[", limit, len(deep)+7)
	fails(t, deep+"{[", limit, len(deep)+1)
	fails(t, deep+"{0(", limit, len(deep)+1)
}

// P22.2: a text of MaxBytes bytes, and of one more, whatever it is.
func TestLongest(t *testing.T) {
	const most = 1048576
	letters := strings.Repeat("a", most-2)
	reads(t, `"`+letters+`"`, text(letters))
	reads(t, "/"+letters[5:]+"/null", null)
	reads(t, strings.Repeat(" ", most-1)+"1", num(1))
	reads(t, "1"+strings.Repeat("\n", most-1), num(1))
	reads(t, strings.Repeat("//", most/2-2)+"true", yes)
	reads(t, "["+strings.Repeat("[],", most/3-1)+"[]]", list(slices.Repeat([]api.Value{list()}, most/3)...))
	reads(t, "h'"+strings.Repeat("61", most/2-2)+"'", raw(letters[:most/2-2]))
	reads(t, "0x"+strings.Repeat("f", most-2), whole("0x"+strings.Repeat("f", most-2)))
	reads(t, "1."+strings.Repeat("0", most-2), num(1))
	reads(t, "1e"+strings.Repeat("0", most-2), num(1))
	reads(t, strings.Repeat("9", most-2)+".0", float(plus))
	fails(t, strings.Repeat(" ", most), input, most)
	fails(t, `"`+letters+"a", input, most)
	fails(t, "/"+letters+"a", input, most)
	fails(t, "?"+letters+"a", input, 0)
	fails(t, letters+"aa", input, 0)
	for _, s := range []string{strings.Repeat(" ", most) + "1", `"` + letters + `a"`, "?" + letters + "aa", strings.Repeat("[", most+1), "1" + strings.Repeat(" ", most), "{1:1,1:1}" + letters, letters + letters, "/" + letters + "aa"} {
		fails(t, s, limit, most)
	}
}

// P22.2: whole numbers with as many digits as may be are just what they say.
func TestLongestNumber(t *testing.T) {
	digits := strings.Repeat("7", 1048575)
	v, err := diag.Read("-" + digits)
	if err != nil || !same(v, whole("-"+digits)) {
		t.Errorf("%s, %v", dump(v), err)
	}
	fails(t, "["+digits, input, 1048576)
}

// R1: as long as may be, of every sort, ends in time and without a panic.
func TestLong(t *testing.T) {
	fill := func(ahead, part, behind string) string {
		return ahead + strings.Repeat(part, (1048576-len(ahead)-len(behind))/len(part)) + behind
	}
	deep, undeep := strings.Repeat("[", 127), strings.Repeat("]", 127)
	for _, s := range []string{
		fill("[", "1,", "1]"), fill("[", "1.5,", "1]"), fill("[", "1e300,", "1]"), fill("[", "1e-300,", "1]"), fill("[", "5e-324,", "1]"), fill("[", "1e999,", "1]"), fill("[", "0x1,", "1]"), fill("[", "18446744073709551615(1),", "1]"), fill("[", "simple(255),", "1]"), fill("[", "ext(-128,h''),", "1]"), fill("[", "h'',", "1]"), fill("[", `"",`, "1]"), fill("[", `"\ud83d\ude00",`, "1]"), fill("[", "{},", "1]"), fill("[", "{1:1},", "1]"), fill("[", "[],", "1]"), fill("[", "//1,", "1]"), fill("", "//", "1"), fill("", " ", "1"), fill("[", "1 ,", "1]"), fill(deep, "[1],", "1"+undeep), fill(deep, "1,", "1"+undeep), fill(`"`, "😀", `"`), fill(`"`, `\n`, `"`), fill("h'", "fF", "'"), fill("[", strings.Repeat("9", 4000)+",", "1]"), fill(strings.Repeat("{", 127)+"[", "1,", "1]"+strings.Repeat(":1}", 127)), fill("1.", "1", ""), fill("1e-", "1", ""), fill("1e", "1", ""),
	} {
		v, err := diag.Read(s)
		if err != nil || value.Check(v) != nil {
			t.Errorf("Read(%q): %v", cut(s), err)
		}
	}
	for _, s := range []string{fill("", "[", ""), fill("", "{", ""), fill("", "1(", ""), fill("[", "1,", ""), fill("", "1", "("), fill("{", "1:1,", "}"), fill("{", "null:", ""), fill("/", "x", ""), fill("h'", "0", ""), fill("[", "1", ""), fill("0x", "f", "g"), fill("1.", "1", "e"), fill("simple(", "1", ")"), fill("ext(", "1", ""), fill("-", "-", ""), fill("", "n", "")} {
		v, err := diag.Read(s)
		if err == nil || !same(v, none) {
			t.Errorf("Read(%q) = %s, %v", cut(s), dump(v), err)
		}
	}
	// Many keys, rising and falling.
	var rising, falling strings.Builder
	for i := range 110000 {
		fmt.Fprintf(&rising, "%d:0,", i)
		fmt.Fprintf(&falling, "%d:0,", 110000-i)
	}
	for _, s := range []string{rising.String(), falling.String()} {
		v, err := diag.Read("{" + s + "-1:0}")
		if err != nil || value.Check(v) != nil || len(v.Kids) != 220002 {
			t.Errorf("Read(%q): %d, %v", cut(s), len(v.Kids), err)
		}
	}
}
