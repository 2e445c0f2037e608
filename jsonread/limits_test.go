package jsonread_test

import (
	"slices"
	"strings"
	"testing"

	"crucible/api"
	"crucible/jsonread"
	"crucible/value"
)

// brackets opens n lists and maps, and tells what closes them.
func (r *rule) brackets(n int) (opening, closing string) {
	for range n {
		if r.below(2) == 0 {
			opening, closing = opening+r.blanks()+"[", "]"+closing
		} else {
			opening, closing = opening+r.blanks()+`{"a":`, "}"+closing
		}
	}
	return opening, closing
}

// nested puts a value in n lists.
func nested(n int, v api.Value) api.Value {
	for range n {
		v = list(v)
	}
	return v
}

// P17.1, P17.2: MaxDepth lists and maps in one another, and one more.
func TestDeep(t *testing.T) {
	if api.MaxDepth != 128 {
		t.Fatal("another limit")
	}
	lists := strings.Repeat("[", 128)
	closed := strings.Repeat("]", 128)
	reads(t, lists+closed, nested(127, list()))
	reads(t, lists+"0"+closed, nested(128, whole("0")))
	reads(t, lists+`0,"[",null`+closed, nested(127, list(whole("0"), text("["), null)))
	reads(t, lists[1:]+"[],{},[0]"+closed[1:], nested(126, list(list(), object(), list(whole("0")))))
	maps := object()
	for range 127 {
		maps = object(text(""), maps)
	}
	reads(t, strings.Repeat(`{"":`, 127)+"{}"+strings.Repeat("}", 127), maps)
	for _, s := range []string{lists + "[" + closed + "]", lists + "[", lists + "[]", lists + "[x", lists + "{", lists + "{}" + closed, lists + `{"a":1,"a":2}` + closed, lists + "[1e999]" + closed} {
		fails(t, s, limit, 128)
		fails(t, " "+s, limit, 129)
	}
	fails(t, strings.Repeat(`{"":`, 128)+"{}"+strings.Repeat("}", 128), limit, 512)
	fails(t, lists+"0,[]"+closed, limit, 130)
	fails(t, lists+"x", input, 128)
	fails(t, lists+"0[", input, 129)
	r := rule{1707}
	for range 60 {
		opening, closing := r.brackets(128)
		s := opening + "1" + closing
		sameAsReference(t, s)
		v, err := jsonread.Read(s)
		if err != nil || value.Depth(v) != 128 || value.Check(v) != nil {
			t.Errorf("Read(%q) has the depth %d, %v", s, value.Depth(v), err)
		}
		for _, more := range []string{"[]", "{}", `{"a":0,"a":0}`, "[", "{"} {
			fails(t, opening+more+closing, limit, len(opening))
		}
		sameAsReference(t, opening+"1e999"+closing)
		fails(t, opening+"1e999"+closing, input, len(opening))
	}
}

// padded is s with as many blanks around it as make n bytes.
func padded(s string, n, ahead int) string {
	return strings.Repeat(" ", ahead) + s + strings.Repeat(" ", n-len(s)-ahead)
}

// P17.1: a text of MaxBytes bytes, and of one more.
func TestLongest(t *testing.T) {
	if api.MaxBytes != 1048576 {
		t.Fatal("another limit")
	}
	long := list(slices.Repeat([]api.Value{list()}, 349524)...)
	long.Kids = append(long.Kids, whole("0"))
	for _, c := range []struct {
		s    string
		want api.Value
	}{
		{padded("[0]", 1048576, 1048573), list(whole("0"))}, {padded("[0]", 1048576, 0), list(whole("0"))}, {padded("null", 1048576, 1000), null}, {padded("true", 1048575, 0), yes},
		{`"` + strings.Repeat("a", 1048574) + `"`, text(strings.Repeat("a", 1048574))}, {`"` + strings.Repeat("é", 524287) + `"`, text(strings.Repeat("é", 524287))}, {`"` + strings.Repeat(`\n`, 524287) + `"`, text(strings.Repeat("\n", 524287))},
		{"0." + strings.Repeat("0", 1048574), whole("0")}, {"1." + strings.Repeat("0", 1048573) + "1", whole("1")}, {"[" + strings.Repeat("[],", 349524) + "0 ]", long}, {`{"` + strings.Repeat("k", 1048570) + `":0}`, object(text(strings.Repeat("k", 1048570)), whole("0"))},
	} {
		if n := len(c.s); n != 1048576 && n != 1048575 {
			t.Fatalf("%d bytes", n)
		}
		reads(t, c.s, c.want)
		if len(c.s) == 1048576 {
			fails(t, c.s+" ", limit, 1048576)
			fails(t, " "+c.s, limit, 1048576)
			fails(t, c.s+c.s, limit, 1048576)
		}
	}
}

// P17.1: the limit is first, also of what is no JSON text; up to it what the scanner tells is.
func TestLongestWrong(t *testing.T) {
	for _, c := range []struct {
		s        string
		code, at int
	}{
		{strings.Repeat(" ", 1048576), input, 1048576}, {strings.Repeat("x", 1048576), input, 0}, {strings.Repeat("[", 1048576), limit, 128}, {padded("", 1048575, 0) + "x", input, 1048575}, {`"` + strings.Repeat("a", 1048575), input, 1048576}, {strings.Repeat("0", 1048576), input, 1}, {strings.Repeat("\xff", 1048576), input, 0},
		{strings.Repeat("9", 1048576), input, 0}, {padded("-1e999", 1048576, 0), input, 0}, {padded("1e999", 1048576, 1048571), input, 1048571}, {padded(`{"a":0,"a":0}`, 1048576, 500000), input, 500007}, {"[1e999" + strings.Repeat(" ", 1048570), input, 1048576}, {"-" + strings.Repeat("1", 1048575), input, 0},
	} {
		if len(c.s) != 1048576 {
			t.Fatalf("%d bytes", len(c.s))
		}
		fails(t, c.s, c.code, c.at)
		for _, more := range []string{" ", "0", "]", "\x00", "\xff", `"`} {
			fails(t, c.s+more, limit, 1048576)
		}
		fails(t, c.s+c.s, limit, 1048576)
	}
}
