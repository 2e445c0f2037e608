package jsonwrite_test

import (
	"slices"
	"strings"
	"testing"

	"crucible/api"
	"crucible/jsonread"
	"crucible/jsonwrite"
	"crucible/utf"
	"crucible/value"
)

// holds: what follows of what Write answers (P18.3, P0.1).
func holds(t *testing.T, v api.Value) {
	t.Helper()
	s, err := jsonwrite.Write(v)
	if err != nil {
		t.Errorf("Write(%s): %v", show(v), err)
		return
	}
	if read, err := jsonread.Read(s); err != nil || !same(read, v) {
		t.Errorf("%q is read as %s, %v, want %s", cut(s), show(read), err, show(v))
	}
	if depth, ok := depthOf(s); !ok || depth != value.Depth(v) {
		t.Errorf("%q is of the depth %d, %v, want %d", cut(s), depth, ok, value.Depth(v))
	}
	if !jsonwrite.Canon(s) {
		t.Errorf("%q is not canonical", cut(s))
	}
}

// P18.3: what Write answers is read as the value, and is a canonical item of its depth.
func TestThereAndBack(t *testing.T) {
	r := rule{1812}
	for range 8000 {
		holds(t, r.value(4, false))
	}
	for d := range 129 {
		holds(t, nested(d, r.value(0, false)))
	}
	for _, v := range notTexts() {
		holds(t, v)
	}
}

// P18.3: two values have one text just if they are the same.
func TestOneText(t *testing.T) {
	r := rule{1813}
	texts := map[string]api.Value{}
	met, again := []api.Value{}, 0
	for range 20000 {
		v := r.value(2, false)
		s, err := jsonwrite.Write(v)
		if err != nil {
			t.Fatal(err)
		}
		if other, ok := texts[s]; ok {
			again++
			if value.Compare(v, other) != 0 || !same(v, other) {
				t.Errorf("%s and %s are both %q", show(v), show(other), s)
			}
			continue
		}
		texts[s] = v
		met = append(met, v)
	}
	// Unlike texts, unlike values: among values in order, the same would stand side by side.
	slices.SortFunc(met, value.Compare)
	for i := 1; i < len(met); i++ {
		if value.Compare(met[i-1], met[i]) == 0 {
			t.Errorf("%s has two texts", show(met[i]))
		}
	}
	if again < 2000 || len(met) < 5000 {
		t.Errorf("%d again, %d in all", again, len(met))
	}
	// Values that look alike.
	alike := []api.Value{
		null, text("null"), no, text("false"), num(0), text("0"), text(""), list(), object(), list(null), list(list()), list(object()), text("[]"), num(1), text("1"), list(num(1)), num(-1), num(10), list(num(1), num(0)), list(num(10)), text("10"), text("1,0"), list(text("1,0")), list(text("1"), text("0")),
		object(text(""), null), object(text("a"), text("")), object(text(""), text("a")), text(`{"a":""}`), text("\n"), text(`\n`), text("n"), text(`"`), text(`\"`), text(`\`), text(`\\`), text("/"), text("\u2028"), text("e\u0301"), text("é"), float(1), float(2), float(half3), float(half3 + 1), float(half3 - 1), text("1.5"),
		whole("9007199254740992"), whole("9007199254740994"), whole("18446744073709551616"), whole("18446744073709555712"), whole("18446744073709549568"), object(text("ﬀ"), num(1), text("😀"), num(2)), object(text("ﬀ"), num(2), text("😀"), num(1)),
	}
	for i, a := range alike {
		for j, b := range alike {
			x, wrongX := jsonwrite.Write(a)
			y, wrongY := jsonwrite.Write(b)
			if wrongX != nil || wrongY != nil || (x == y) != (i == j) {
				t.Errorf("%s is %q, %v; %s is %q, %v", show(a), x, wrongX, show(b), y, wrongY)
			}
		}
	}
}

// P18.3: of a list or map that is taken every Kid is, and its text is put together of theirs.
func TestPutTogether(t *testing.T) {
	r := rule{1814}
	for range 20000 {
		v := r.value(4, r.below(3) == 0)
		s, err := jsonwrite.Write(v)
		if err != nil || v.Kind != api.VList && v.Kind != api.VMap {
			continue
		}
		var parts []string
		for _, kid := range v.Kids {
			part, err := jsonwrite.Write(kid)
			if err != nil {
				t.Errorf("%s is taken, but not %s: %v", show(v), show(kid), err)
			}
			parts = append(parts, part)
		}
		want := "[" + strings.Join(parts, ",") + "]"
		if v.Kind == api.VMap {
			want = "{" + strings.Join(joined(v.Kids, parts), ",") + "}"
		}
		if s != want {
			t.Errorf("Write(%s) = %q, of its Kids' texts %q", show(v), s, want)
		}
	}
}

// joined are the pairs of a map, in their order, each as its key's text, a colon and its value's.
func joined(kids []api.Value, parts []string) []string {
	var numbers []int
	for i := 0; i < len(kids); i += 2 {
		numbers = append(numbers, i)
	}
	slices.SortFunc(numbers, func(i, j int) int { return utf.Cmp(kids[i].Text, kids[j].Text) })
	var out []string
	for _, i := range numbers {
		out = append(out, parts[i]+":"+parts[i+1])
	}
	return out
}

// P18.3: Kids of what is refused may be taken: of a map by its keys, of what is too deep or too long, of a tag.
func TestKidsOfRefused(t *testing.T) {
	half := text(strings.Repeat("a", 600000))
	for _, v := range []api.Value{object(num(1), num(2)), object(null, no), object(list(), list()), deep(129), list(half, half), object(text("a"), half, text("b"), half), list(text(strings.Repeat("a", 1048574))), tag(1, num(1)), {Kind: api.VList, N: 1, Kids: []api.Value{null}}, object(text("b"), null, text("a"), null)} {
		if s, err := jsonwrite.Write(v); s != "" || err == nil {
			t.Errorf("Write(%s) = %q", show(v), cut(s))
		}
		for _, kid := range v.Kids {
			if _, err := jsonwrite.Write(kid); err != nil {
				t.Errorf("Write(%s): %v", show(kid), err)
			}
		}
	}
}

// comesOut: is the string read as a value of which Write answers it?
func comesOut(s string) bool {
	v, err := jsonread.Read(s)
	if err != nil {
		return false
	}
	out, err := jsonwrite.Write(v)
	return err == nil && out == s
}

// P18.5, P0.3: Canon is true just if a string is read as a value of which Write answers it; and then it is canonical by its bytes alone.
func TestAsItStands(t *testing.T) {
	r := rule{1815}
	out := 0
	for range 12000 {
		s := r.anyString(3)
		if r.below(2) == 0 {
			s = r.loosely(r.value(3, false))
		}
		if got, stands := jsonwrite.Canon(s), comesOut(s); got != stands || got != isCanonical(s) {
			t.Errorf("Canon(%q) = %v; does it come out as it stands: %v; is it canonical by its bytes: %v", s, got, stands, isCanonical(s))
		}
		if comesOut(s) {
			out++
		}
	}
	if out < 3000 || out > 9000 {
		t.Errorf("%d come out as they stand", out)
	}
}

// P0.1: whatever text of a value it is, the same comes out, and that only once.
func TestOneDocument(t *testing.T) {
	r := rule{1816}
	for range 4000 {
		v := r.value(3, false)
		want := written(v)
		for range 3 {
			s := r.loosely(v)
			read, err := jsonread.Read(s)
			if err != nil {
				t.Fatal(err)
			}
			writes(t, read, want)
			if jsonwrite.Canon(s) != (s == want) {
				t.Errorf("of %q and %q both are canonical, or neither", s, want)
			}
		}
	}
}

// outside are the places of a canonical text that lie outside of its texts.
func outside(s string) []int {
	var out []int
	within := false
	for at := 0; at <= len(s); at++ {
		if !within {
			out = append(out, at)
		}
		if at == len(s) {
			break
		}
		switch {
		case within && s[at] == '\\':
			at++
		case s[at] == '"':
			within = !within
		}
	}
	return out
}

// P18.5: a blank anywhere outside of the texts of a canonical text.
func TestBlanks(t *testing.T) {
	r := rule{1817}
	for range 1500 {
		s := written(r.value(3, false))
		for _, at := range outside(s) {
			blank := pick(&r, " ", "\t", "\n", "\r", "  ", "\r\n")
			if other := s[:at] + blank + s[at:]; jsonwrite.Canon(other) {
				t.Errorf("Canon(%q) is true", other)
			}
		}
	}
	for _, blank := range []string{" ", "\t", "\n", "\r"} {
		for _, s := range []string{"null", "-1.5e-7", `"a"`, "[]", "{}", "[1,[2],{}]", `{"a":[0],"b":1}`} {
			canon(t, s, true)
			for _, at := range outside(s) {
				canon(t, s[:at]+blank+s[at:], false)
			}
		}
	}
	// In its texts a blank is a code point like others.
	canon(t, `[" "," a b ",{" ":0}]`, true)
}
