package jsonscan_test

import (
	"slices"
	"strings"
	"testing"

	"crucible/jsonscan"
)

// behindEach is what a scanner answers behind each chunk.
func behindEach(chunks []string) []state {
	s := jsonscan.New()
	var out []state
	for _, c := range chunks {
		out = append(out, stateOf(s, s.Write(c)))
	}
	return out
}

// P16.5: how what is written is cut makes no difference to any answer behind it, empty chunks neither.
func TestCuts(t *testing.T) {
	r := rule{51}
	for range 4000 {
		s := r.anyString(3)
		if r.below(50) == 0 {
			opening, closing := r.mixed(126 + r.below(5))
			s = opening + s + closing
		}
		// By single bytes, with empty chunks between them.
		bytes := []string{""}
		for i := range len(s) {
			bytes = append(bytes, s[i:i+1], "")
		}
		single := behindEach(bytes)
		for i := range len(s) {
			if single[2*i+1] != single[2*i+2] {
				t.Fatalf("%q: %v, and behind an empty chunk %v", s[:i+1], single[2*i+1], single[2*i+2])
			}
		}
		if last := single[len(single)-1]; last != scanned(s) {
			t.Fatalf("%q: %v by bytes, %v at once", s, last, scanned(s))
		}
		for range 3 {
			chunks := r.cut(s)
			at := 0
			for i, got := range behindEach(chunks) {
				at += len(chunks[i])
				if got != single[2*at] {
					t.Fatalf("%q: %v behind %d bytes, cut otherwise %v", chunks, got, at, single[2*at])
				}
			}
		}
	}
}

// P16.5: every text in two chunks, cut at every place.
func TestTwoChunks(t *testing.T) {
	r := rule{53}
	for range 1000 {
		s := r.anyString(2)
		want := scanned(s)
		for n := range len(s) + 1 {
			if got := scanned(s[:n], s[n:]); got != want {
				t.Errorf("%q, %q: %v, want %v", s[:n], s[n:], got, want)
			}
		}
	}
}

// ending makes a way's words into bytes, as few as can be.
func ending(way string) string {
	var out strings.Builder
	g := theGrammar()
	for word := range strings.FieldsSeq(way) {
		switch spans, ok := g.spans[word]; {
		case ok:
			out.WriteByte(spans[0])
		case slices.Contains(g.heads[word], head{}):
		case word == "text" || word == "value" || word == "elements" || word == "number" || word == "whole":
			out.WriteString("0")
		case word == "pair" || word == "pairs":
			out.WriteString(`"":0`)
		case word == "literal":
			out.WriteString(`""`)
		default:
			out.WriteString(word)
		}
	}
	return out.String()
}

// P16.5: what was written without an error can be gone on with to a JSON text, and nothing else can.
func TestGoneOnWith(t *testing.T) {
	r := rule{55}
	begun, wrong := 0, 0
	for range 6000 {
		s := r.anyString(3)
		if r.below(30) == 0 {
			opening, _ := r.mixed(120 + r.below(9))
			s = opening + s
		}
		x := jsonscan.New()
		err := x.Write(s)
		if err != nil {
			wrong++
			s = s[:x.Len()]
		} else {
			begun++
		}
		m := newModel()
		m.write(s)
		if m.err != nil {
			t.Fatalf("%q is no beginning", s)
		}
		for _, way := range m.ways {
			more := ending(way)
			if got := scanned(s, more); got != (state{size: len(s) + len(more)}) {
				t.Errorf("%q, gone on with by %q: %v", s, more, got)
			}
			if err != nil {
				// Behind the wrong byte nothing helps.
				if got, want := stateOf(x, x.Write(more)), stateOf(x, err); got != want {
					t.Errorf("%q, gone on with by %q: %v, want %v", s, more, got, want)
				}
			}
		}
	}
	if begun < 1500 || wrong < 1500 {
		t.Errorf("%d begun, %d wrong", begun, wrong)
	}
}

// deepest is the greatest Depth within a text.
func deepest(s string) int {
	x := jsonscan.New()
	most := 0
	for i := range len(s) {
		x.Write(s[i : i+1])
		most = max(most, x.Depth())
	}
	return most
}

// P16.5: of JSON texts lists and maps can be made by brackets, as long as the depth allows it.
func TestBrackets(t *testing.T) {
	r := rule{57}
	for range 3000 {
		texts := []string{}
		pairs := []string{}
		for range 1 + r.below(4) {
			texts = append(texts, r.text(3))
			pairs = append(pairs, r.blanks()+r.literal()+r.blanks()+":"+texts[len(texts)-1])
		}
		list, pair := "["+strings.Join(texts, ",")+"]", "{"+strings.Join(pairs, ",")+"}"
		for _, s := range []string{list, pair} {
			scans(t, s, state{size: len(s)})
			if got, want := deepest(s), 1+slices.Max(mapped(texts, deepest)); got != want {
				t.Errorf("%q has the depth %d, want %d", s, got, want)
			}
		}
	}
}

func mapped[A, B any](l []A, f func(A) B) []B {
	var out []B
	for _, x := range l {
		out = append(out, f(x))
	}
	return out
}

// P16.5: brackets around a text till the depth does not allow it any more.
func TestBracketsToTheLimit(t *testing.T) {
	r := rule{59}
	for range 30 {
		s := r.text(4)
		for !t.Failed() && deepest(s) < 128 {
			if r.below(2) == 0 {
				s = r.blanks() + "[" + s + "]"
			} else {
				s = "{" + r.literal() + ":" + s + "}" + r.blanks()
			}
			scans(t, s, state{size: len(s)})
		}
		// The first bracket for which there is no room now is the first of the innermost ones.
		x := jsonscan.New()
		at := 0
		for x.Depth() < 128 && at < len(s) {
			x.Write(s[at : at+1])
			at++
		}
		scans(t, "["+s+"]", state{limit, limit, at, at, at, 128})
		scans(t, `{"":`+s+"}", state{limit, limit, at + 3, at + 3, at + 3, 128})
	}
}

// P16.5: a literal by itself is a JSON text.
func TestLiteralIsText(t *testing.T) {
	r := rule{61}
	for range 3000 {
		isText(t, r.literal())
		isText(t, r.blanks()+r.literal()+r.blanks())
	}
}

// P16.2, P16.5: the place of an error does not hang on what comes behind it.
func TestPlaceStays(t *testing.T) {
	r := rule{63}
	for range 5000 {
		s := r.anyString(3)
		got := scanned(s)
		if got.write == fine {
			continue
		}
		for range 3 {
			more := s[:got.size+1] + r.anyString(2)
			scans(t, more, got)
		}
	}
}
