package jsonread_test

import (
	"slices"
	"strconv"
	"strings"
	"testing"

	"crucible/api"
	"crucible/jsonread"
	"crucible/value"
)

// P17.1: every kind of value, by itself, with blanks around it, and within others.
func TestKinds(t *testing.T) {
	for _, c := range []struct {
		s    string
		want api.Value
	}{
		{"null", null}, {"false", no}, {"true", yes}, {"0", whole("0")}, {"-7", whole("-7")}, {"1.5", float(0x3ff8000000000000)}, {`""`, text("")}, {`"null"`, text("null")}, {"[]", list()}, {"{}", object()},
		{"[null]", list(null)}, {`{"a":null}`, object(text("a"), null)}, {"[[],{},[[]]]", list(list(), object(), list(list()))},
	} {
		reads(t, c.s, c.want)
		for _, b := range []string{" ", "\t", "\n", "\r", "\r\n\t ", strings.Repeat(" ", 1000)} {
			reads(t, b+c.s, c.want)
			reads(t, c.s+b, c.want)
			reads(t, b+c.s+b, c.want)
			reads(t, b+"["+b+c.s+b+","+b+c.s+b+"]"+b, list(c.want, c.want))
			reads(t, b+"{"+b+`"b"`+b+":"+b+c.s+b+","+b+`"a"`+b+":"+b+c.s+b+"}"+b, object(text("a"), c.want, text("b"), c.want))
			reads(t, "["+b+"]", list())
			reads(t, "{"+b+"}", object())
		}
	}
}

// P17.1: lists and maps in one another, the elements of a list as they stand.
func TestNested(t *testing.T) {
	one, two, three := whole("1"), whole("2"), whole("3")
	for _, c := range []struct {
		s    string
		want api.Value
	}{
		{"[3,1,2,1]", list(three, one, two, one)}, {"[1,[2,[3]],[[[]]],{}]", list(one, list(two, list(three)), list(list(list())), object())}, {"[[],[],[]]", list(list(), list(), list())},
		{`{"a":{"a":{"a":1}}}`, object(text("a"), object(text("a"), object(text("a"), one)))}, {`[{"a":1},{"a":1}]`, list(object(text("a"), one), object(text("a"), one))},
		{`{"a":{"b":1},"b":{"a":1,"b":2}}`, object(text("a"), object(text("b"), one), text("b"), object(text("a"), one, text("b"), two))}, {`{"x":[{"y":{}}],"a":[{"x":[]}]}`, object(text("a"), list(object(text("x"), list())), text("x"), list(object(text("y"), object())))},
		{` {"b": 1.0, "a": [1e2, -0, 0.1e1]}`, object(text("a"), list(whole("100"), whole("0"), one), text("b"), one)}, {`["]",["}"],{"{":"["}]`, list(text("]"), list(text("}")), object(text("{"), text("[")))}, {`{"":{"":[""]}}`, object(text(""), object(text(""), list(text(""))))},
	} {
		reads(t, c.s, c.want)
	}
	long := list()
	for i := range 3000 {
		long.Kids = append(long.Kids, whole(strconv.Itoa(i*7919%3001)))
	}
	var parts []string
	for i := range 3000 {
		parts = append(parts, strconv.Itoa(i*7919%3001))
	}
	reads(t, "["+strings.Join(parts, ",")+"]", long)
}

// literal writes a text with any escapes.
func (r *rule) literal(s string) string {
	m := &maker{rule: r}
	m.literal(s)
	return m.String()
}

// P17.1, P17.2: the keys of a map rise byte by byte, however they stood and were written.
func TestKeyOrder(t *testing.T) {
	rising := []string{"", "\x00", "\x00\x00", "\x01", " ", "\"", "/", "0", "00", "1", "10", "2", "A", "Z", "\\", "a", "aa", "aaa", "ab", "b", "ba", "~", "\x7f", "\u0080", "é", "éa", "߿", "ࠀ", "\ud7ff", "\ue000", "ﬀ", "\ufffd", "\uffff", "\U00010000", "😀", "\U0010ffff"}
	want := object()
	for i, k := range rising {
		want.Kids = append(want.Kids, text(k), whole(strconv.Itoa(i)))
	}
	if err := value.Check(want); err != nil {
		t.Fatal(err)
	}
	r := rule{1703}
	for range 300 {
		var parts []string
		for i, k := range rising {
			parts = append(parts, r.literal(k)+":"+strconv.Itoa(i))
		}
		for i := range parts {
			j := i + r.below(len(parts)-i)
			parts[i], parts[j] = parts[j], parts[i]
		}
		reads(t, "{"+strings.Join(parts, ",")+"}", want)
		reads(t, "[{"+strings.Join(parts, " , ")+" }]", list(want))
	}
	for _, two := range [][2]string{{"a", "b"}, {"a", "aa"}, {"", "a"}, {"10", "9"}, {"ﬀ", "😀"}, {"é", "ﬀ"}, {"Z", "a"}} {
		a, b := r.literal(two[0]), r.literal(two[1])
		want := object(text(two[0]), null, text(two[1]), yes)
		reads(t, "{"+a+":null,"+b+":true}", want)
		reads(t, "{"+b+":true,"+a+":null}", want)
	}
}

// P17.1: a map of many pairs, each value behind its key.
func TestManyKeys(t *testing.T) {
	var parts []string
	var pairs [][2]api.Value
	for i := range 20000 {
		key := strconv.Itoa(i * 7919 % 20011)
		parts = append(parts, `"`+key+`":`+strconv.Itoa(i))
		pairs = append(pairs, [2]api.Value{text(key), whole(strconv.Itoa(i))})
	}
	s := "{" + strings.Join(parts, ",") + "}"
	reads(t, s, inOrder(pairs))
	for _, i := range []int{0, 1, 9999, 19999} {
		again, _, _ := strings.Cut(parts[i], ":")
		fails(t, s[:len(s)-1]+","+again+":0}", input, len(s))
	}
}

// P17.1, P17.2: texts that were written down together with their values.
func TestMade(t *testing.T) {
	r := rule{1704}
	for i := range 20000 {
		x := r.made(1+i%6, i%3 == 0)
		answers(t, x.s, x.value, x.told())
		if v, err := jsonread.Read(x.s); err == nil && value.Depth(v) != x.depth {
			t.Errorf("Read(%q) has the depth %d, want %d", x.s, value.Depth(v), x.depth)
		}
		if t.Failed() {
			break
		}
	}
}

// P17.1, R1, R2: anything at all, held against the reference.
func TestAnyString(t *testing.T) {
	r := rule{1705}
	codes := map[told]int{}
	for range 40000 {
		s := r.anyString(4)
		sameAsReference(t, s)
		_, err := jsonread.Read(s)
		e, _ := scans(s)
		codes[told{tells(err).code, e.code}]++
		if t.Failed() {
			break
		}
	}
	// Read, told by the scanner, told by the reader.
	if codes[told{}] < 5000 || codes[told{input, input}] < 5000 || codes[told{input, 0}] < 2000 {
		t.Errorf("of each sort: %v", codes)
	}
}

// P17.1: all strings of few bytes that turn something.
func TestShortStrings(t *testing.T) {
	bytes := `09.-+eE"\u[]{},: nx` + "\n\x80"
	all := []string{""}
	for range 3 {
		for _, s := range slices.Clone(all) {
			for i := range len(bytes) {
				all = append(all, s+bytes[i:i+1])
			}
		}
		slices.Sort(all)
		all = slices.Compact(all)
	}
	for _, s := range all {
		sameAsReference(t, s)
	}
}
