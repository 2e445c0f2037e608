package jsonscan_test

import (
	"testing"

	"crucible/jsonscan"
)

// P16.3: the chapter's texts in pieces, closed behind each.
func TestCloseBetween(t *testing.T) {
	for _, c := range []struct {
		chunks []string
		want   []state
	}{
		{[]string{` [1, {"a": tr`, `ue}]`}, []state{{close: input, closeAt: 13, size: 13, depth: 2}, {size: 17}}},
		{[]string{"12", "3", " ", "4", "]"}, []state{{size: 2}, {size: 3}, {size: 4}, {input, input, 4, 4, 4, 0}, {input, input, 4, 4, 4, 0}}},
		{[]string{"-", "0", ".", "5", "e", "-", "7", "\n"}, []state{{close: input, closeAt: 1, size: 1}, {size: 2}, {close: input, closeAt: 3, size: 3}, {size: 4}, {close: input, closeAt: 5, size: 5}, {close: input, closeAt: 6, size: 6}, {size: 7}, {size: 8}}},
		{[]string{"", " ", "", "[", "", "]", ""}, []state{{close: input}, {close: input, closeAt: 1, size: 1}, {close: input, closeAt: 1, size: 1}, {close: input, closeAt: 2, size: 2, depth: 1}, {close: input, closeAt: 2, size: 2, depth: 1}, {size: 3}, {size: 3}}},
		{[]string{`"\ud83`, `d\ud`, `e00`, `"`}, []state{{close: input, closeAt: 6, size: 6}, {close: input, closeAt: 10, size: 10}, {close: input, closeAt: 13, size: 13}, {size: 14}}},
		{[]string{"\"\xf0", "\x9f", "\x98", "\x80", "\""}, []state{{close: input, closeAt: 2, size: 2}, {close: input, closeAt: 3, size: 3}, {close: input, closeAt: 4, size: 4}, {close: input, closeAt: 5, size: 5}, {size: 6}}},
	} {
		s := jsonscan.New()
		for i, chunk := range c.chunks {
			err := s.Write(chunk)
			for range 3 {
				if got := stateOf(s, err); got != c.want[i] {
					t.Errorf("%q, chunk %d: %v, want %v", c.chunks, i, got, c.want[i])
				}
			}
		}
	}
}

// P16.3: whether a text is closed behind each of its bytes, and how often, makes no difference to what comes.
func TestCloseChangesNothing(t *testing.T) {
	r := rule{31}
	for range 5000 {
		s := r.anyString(3)
		asked := jsonscan.New()
		m := newModel()
		var err error
		for i := range len(s) {
			err = asked.Write(s[i : i+1])
			m.take(s[i])
			for range r.below(4) {
				if got, want := stateOf(asked, err), m.state(); got != want {
					t.Fatalf("%q: %v, want %v", s[:i+1], got, want)
				}
			}
		}
		if got := stateOf(asked, err); got != scanned(s) {
			t.Errorf("%q: %v if it is asked between, else %v", s, got, scanned(s))
		}
	}
}

// P16.3: of all ways to cut a text off, just those are JSON texts themselves that are.
func TestCutOff(t *testing.T) {
	r := rule{33}
	whole := 0
	for range 1000 {
		s := r.text(3)
		m := newModel()
		for n := range len(s) {
			want := m.state()
			if want.close == fine {
				whole++
			}
			if want.write != fine {
				t.Fatalf("%q is no beginning", s[:n])
			}
			scans(t, s[:n], want)
			m.take(s[n])
		}
		isText(t, s)
	}
	if whole < 500 {
		t.Errorf("%d of them are JSON texts", whole)
	}
}

// P16.2, P16.3, P16.4: behind an error all calls tell the same, whatever comes.
func TestBehindError(t *testing.T) {
	for _, c := range []struct {
		s    string
		want state
	}{
		{"[1,]", state{input, input, 3, 3, 3, 1}}, {"]", state{input, input, 0, 0, 0, 0}}, {"nul1", state{input, input, 3, 3, 3, 0}}, {"1 1", state{input, input, 2, 2, 2, 0}},
		{`[{"a":"\x`, state{input, input, 8, 8, 8, 2}}, {"[[1}", state{input, input, 3, 3, 3, 2}}, {"\"\xc3\"", state{input, input, 2, 2, 2, 0}}, {"[]]]]]", state{input, input, 2, 2, 2, 0}},
		{`{"a":1,}`, state{input, input, 7, 7, 7, 1}}, {deep(128, "[") + "[", state{limit, limit, 128, 128, 128, 128}}, {deep(128, `{"":`) + "[[[", state{limit, limit, 640 - 128, 640 - 128, 640 - 128, 128}},
	} {
		for _, more := range []string{"", " ", "1", "]", "l", "2]", `"`, "n\"", "}", "[[[[", "null", "\xff", c.s} {
			s := jsonscan.New()
			err := s.Write(c.s)
			if got := stateOf(s, err); got != c.want {
				t.Errorf("%q: %v, want %v", c.s, got, c.want)
			}
			for range 3 {
				if got := stateOf(s, s.Write(more)); got != c.want {
					t.Errorf("%q, and %q: %v, want %v", c.s, more, got, c.want)
				}
			}
		}
	}
}
