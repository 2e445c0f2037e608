package jsonscan_test

import (
	"strings"
	"testing"

	"crucible/api"
	"crucible/jsonscan"
)

// deep opens n lists or maps.
func deep(n int, opening string) string { return strings.Repeat(opening, n) }

// mixed opens n lists and maps in turn, and tells what closes them.
func (r *rule) mixed(n int) (opening, closing string) {
	for range n {
		if r.below(2) == 0 {
			opening, closing = opening+r.blanks()+"[", "]"+closing
		} else {
			opening, closing = opening+r.blanks()+`{"a":`, "}"+closing
		}
	}
	return opening, closing
}

// beyond: the bracket that comes behind s is one too many.
func beyond(t *testing.T, s string, brackets string) {
	t.Helper()
	want := state{limit, limit, len(s), len(s), len(s), 128}
	for _, more := range []string{"", "]", "}", `"a":1}`, "0]", "[", "\xff"} {
		scans(t, s+brackets+more, want)
	}
	if w := wants(s + brackets); w != want {
		t.Errorf("the reference has %v for %q", w, s+brackets)
	}
}

// P16.2, P16.4: MaxDepth lists and maps in one another, and one more.
func TestDeep(t *testing.T) {
	if api.MaxDepth != 128 {
		t.Fatal("another limit")
	}
	r := rule{41}
	for range 20 {
		opening, closing := r.mixed(128)
		scans(t, opening, state{close: input, closeAt: len(opening), size: len(opening), depth: 128})
		for _, v := range []string{"0", `"[[[["`, "null", `"{{{"`} {
			isText(t, opening+v+closing)
		}
		beyond(t, opening, "[")
		beyond(t, opening, "{")
		beyond(t, opening+" ", "[")
		if strings.HasSuffix(opening, "[") {
			isText(t, opening+closing)
			beyond(t, opening+"0,", "{")
			beyond(t, opening+`"[", `, "[")
		} else {
			beyond(t, opening+`0,"[":`, "{")
			beyond(t, opening+` null , "b" : `, "[")
		}
	}
	lists := deep(128, "[")
	isText(t, lists+deep(128, "]"))
	isText(t, lists+"0"+deep(128, "]"))
	isText(t, deep(127, `{"":`)+"{"+deep(128, "}"))
	isText(t, deep(127, "[")+"[],{},[]"+deep(127, "]"))
	beyond(t, lists, "[")
	beyond(t, lists, "{")
	beyond(t, deep(128, `{"":`), "{")
	beyond(t, deep(127, "[")+"[],{},[", "[")
	beyond(t, deep(127, "[")+`{"a":[`[:5], "[")
}

// P16.2: where MaxDepth are open, a bracket with which there is no beginning anyway is ErrInput; one within a literal opens nothing.
func TestDeepWrong(t *testing.T) {
	lists := deep(128, "[")
	for _, bracket := range []string{"[", "{"} {
		for _, s := range []string{lists + "0", lists + "0 ", lists + "-", lists + "1.", lists + "n", lists + "nul", lists + "null", lists + `"a"`, lists + `"\`, lists + `"\u`, lists + `"\u00`, lists + `"\ud800`, lists + "\"\xc3", lists + `0,""`,
			deep(127, "[") + "{", deep(127, "[") + "{ ", deep(127, "[") + `{"a"`, deep(127, "[") + `{"a" `, deep(127, "[") + `{"a":0`, deep(127, "[") + `{"a":0,`, deep(127, "[") + `{"a":0, `, deep(128, `{"":`) + "0", deep(128, `{"":`) + `0,"` + "\xe2"} {
			goesWrong(t, s+bracket, len(s), 128)
		}
		isBegun(t, lists+`"`+bracket, 128)
		isBegun(t, lists+`"`+bracket+bracket, 128)
		isBegun(t, deep(127, "[")+`{"`+bracket, 128)
		goesWrong(t, lists+"]"+bracket, 129, 127)
	}
	goesWrong(t, lists+"}", 128, 128)
	goesWrong(t, lists+",", 128, 128)
	goesWrong(t, lists+deep(129, "]"), 256, 0)
	goesWrong(t, deep(127, "[")+"{]", 128, 128)
}

// P16.2: a bracket below the limit is none beyond it, however many were closed before, and wrong brackets at the top are ErrInput.
func TestOpenAgain(t *testing.T) {
	s := "[" + strings.Repeat(deep(127, "[")+deep(127, "]")+",", 50) + strings.Repeat(deep(127, `{"":`)+"0"+deep(127, "}")+",", 50) + "0]"
	scans(t, s, state{size: len(s)})
	for _, c := range []string{"[", "{", "]", "}"} {
		goesWrong(t, "[1]"+c, 3, 0)
		goesWrong(t, deep(128, "[")+deep(128, "]")+c, 256, 0)
		goesWrong(t, deep(128, "[")+deep(128, "]")+" "+c, 257, 0)
	}
	r := rule{43}
	for range 100 {
		opening, closing := r.mixed(120 + r.below(12))
		sameAsReference(t, opening+"0"+closing)
		at := r.below(len(opening) + 1)
		sameAsReference(t, opening[:at]+string([]byte{r.wild()})+opening[at:])
		sameAsReference(t, opening+"0"+closing[:r.below(len(closing))]+",["+opening)
	}
}

// P16.4: Len and Depth behind each byte.
func TestLenDepth(t *testing.T) {
	s := jsonscan.New()
	text := ` [1, {"[": [ ] , "a":{}}, [[]] ] `
	depths := []int{}
	depth := 0
	for i, c := range text {
		switch {
		case i == strings.Index(text, `"[`)+1:
		case c == '[' || c == '{':
			depth++
		case c == ']' || c == '}':
			depth--
		}
		depths = append(depths, depth)
	}
	for i := range len(text) {
		if err := s.Write(text[i : i+1]); err != nil {
			t.Fatalf("%q: %v", text[:i+1], err)
		}
		if s.Len() != i+1 || s.Depth() != depths[i] {
			t.Errorf("%q: Len %d, Depth %d, want %d", text[:i+1], s.Len(), s.Depth(), depths[i])
		}
	}
}
