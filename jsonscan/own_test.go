package jsonscan_test

import (
	"errors"
	"slices"
	"strings"
	"sync"
	"testing"

	"crucible/api"
	"crucible/jsonscan"
)

// R3: all of a scanner that is not there, and of one that New did not make.
func TestNotThere(t *testing.T) {
	var gone *jsonscan.Scanner
	for _, s := range []*jsonscan.Scanner{gone, {}, new(jsonscan.Scanner)} {
		for _, chunk := range []string{"", "1", "[", "]", " ", "\xff", deep(200, "[")} {
			want := state{write: none, close: none}
			if got := stateOf(s, s.Write(chunk)); got != want {
				t.Errorf("%v: %v", s == nil, got)
			}
			if err := s.Write(chunk); !errors.Is(err, api.ErrNil) {
				t.Errorf("%v: %v", s == nil, err)
			}
		}
	}
}

// R3, R5: a copy of a scanner is none that New made, and nothing that is done with it is seen in the scanner.
func TestCopy(t *testing.T) {
	s := jsonscan.New()
	s.Write(`[{"a":[`)
	copied := *s
	want := stateOf(s, nil)
	for _, chunk := range []string{"1", "]", "]]]"} {
		if got := stateOf(&copied, copied.Write(chunk)); got != (state{write: none, close: none}) {
			t.Errorf("the copy: %v", got)
		}
	}
	if got := stateOf(s, nil); got != want {
		t.Errorf("the scanner: %v, want %v", got, want)
	}
	if got := stateOf(s, s.Write("1]}]")); got != (state{size: 11}) {
		t.Errorf("the scanner: %v", got)
	}
}

// R5: two scanners, written to in turn, know nothing of each other.
func TestTwoScanners(t *testing.T) {
	r := rule{71}
	for range 2000 {
		texts := []string{r.anyString(3), r.anyString(3), r.text(3), deep(120+r.below(20), "[")}
		scanners := make([]*jsonscan.Scanner, len(texts))
		places := make([]int, len(texts))
		errs := make([]error, len(texts))
		for i := range scanners {
			scanners[i] = jsonscan.New()
		}
		for range 4 * len(texts[0]) {
			i := r.below(len(texts))
			n := min(places[i]+1+r.below(3), len(texts[i]))
			errs[i] = scanners[i].Write(texts[i][places[i]:n])
			places[i] = n
		}
		for i, s := range scanners {
			errs[i] = s.Write(texts[i][places[i]:])
			if got := stateOf(s, errs[i]); got != scanned(texts[i]) {
				t.Errorf("%q: %v beside others, else %v", texts[i], got, scanned(texts[i]))
			}
		}
	}
}

// R1, R5: anything at all, in any order, and several at a time.
func TestSame(t *testing.T) {
	r := rule{73}
	var texts [][]string
	var first [][]state
	for range 2000 {
		texts = append(texts, r.cut(r.anyString(3)))
	}
	for _, chunks := range texts {
		first = append(first, behindEach(chunks))
	}
	for i, chunks := range slices.Backward(texts) {
		if !slices.Equal(behindEach(chunks), first[i]) {
			t.Errorf("what was asked before makes a difference: %q", chunks)
		}
	}
	var wait sync.WaitGroup
	for range 4 {
		wait.Go(func() {
			for i, chunks := range texts {
				if !slices.Equal(behindEach(chunks), first[i]) {
					t.Errorf("what is asked at the same time makes a difference: %q", chunks)
				}
			}
		})
	}
	wait.Wait()
}

// R4: two faults are two things: what is done with the one is not seen in the next.
func TestOwnFaults(t *testing.T) {
	for _, c := range []struct {
		s    string
		want state
	}{{"[1,]", state{input, input, 3, 3, 3, 1}}, {deep(129, "["), state{limit, limit, 128, 128, 128, 128}}, {"[1", state{0, input, 0, 2, 2, 1}}} {
		s := jsonscan.New()
		written := s.Write(c.s)
		for _, err := range []error{written, s.Write(""), s.Close(), s.Close()} {
			var fault *api.Fault
			if errors.As(err, &fault) {
				*fault = api.Fault{Err: api.ErrArg, At: 99, Path: "/1"}
			}
			if got := stateOf(s, s.Write("")); got != c.want {
				t.Errorf("%q: %v, want %v", c.s, got, c.want)
			}
		}
	}
}

// R1: long texts of every kind, right up to the end and wrong there.
func TestLong(t *testing.T) {
	n := 1 << 18
	for _, s := range []string{
		strings.Repeat(" ", n) + "0", strings.Repeat("9", n), "0." + strings.Repeat("0", n), "1e" + strings.Repeat("0", n), `"` + strings.Repeat("a", n) + `"`, `"` + strings.Repeat("😀", n/4) + `"`,
		`"` + strings.Repeat(`\ud83d\ude00`, n/12) + `"`, "[" + strings.Repeat("0,", n/2) + "0]", "{" + strings.Repeat(`"":{},`, n/6) + `"":0}`, "[" + strings.Repeat("[[]],", n/5) + "0]",
	} {
		scans(t, s, state{size: len(s)})
		if got := scanned(s, "x"); got != (state{input, input, len(s), len(s), len(s), 0}) {
			t.Errorf("%d bytes and one more: %v", len(s), got)
		}
	}
	for _, b := range []string{"[", "{", "]", `"[`, `{"a":`, "\x80"} {
		s := strings.Repeat(b, n)
		sameAsReference(t, s)
	}
}

// R1: all bytes in any order.
func TestAnyBytes(t *testing.T) {
	r := rule{75}
	for range 20000 {
		s := make([]byte, r.below(12))
		for i := range s {
			s[i] = byte(r.next())
			if r.below(2) == 0 {
				s[i] = r.wild()
			}
		}
		sameAsReference(t, string(s))
	}
}
