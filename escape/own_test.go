package escape_test

import (
	"errors"
	"slices"
	"strings"
	"sync"
	"testing"

	"crucible/api"
	"crucible/escape"
)

type question struct {
	s  string
	at int
}

type answer struct {
	quoted, unquoted, text string
	ok                     bool
	next                   int
	errs                   [2]int
	places                 [2]int
}

// kind is which error it is and what place it tells.
func kind(err error) (which, at int) {
	var fault *api.Fault
	if errors.As(err, &fault) {
		at = fault.At
	}
	switch {
	case err == nil:
		return 0, at
	case just(err, api.ErrArg):
		return 1, at
	case just(err, api.ErrInput):
		return 3, at
	}
	return -1, at
}

func ask(q question) (a answer) {
	var err [2]error
	a.quoted, a.ok = escape.Quote(q.s)
	a.unquoted, err[0] = escape.Unquote(q.s)
	a.text, a.next, err[1] = escape.Scan(q.s, q.at)
	for i := range err {
		a.errs[i], a.places[i] = kind(err[i])
	}
	return a
}

func (r *rule) questions(n int) []question {
	out := make([]question, n)
	for i := range out {
		s := r.anyString(8)
		if r.below(2) == 0 {
			s = r.text(8)
		}
		out[i] = question{s, r.below(len(s)+6) - 3}
	}
	return out
}

// R1, R5: anything at all, in any order, and several at a time.
func TestSame(t *testing.T) {
	r := rule{71}
	questions := r.questions(4000)
	var first []answer
	for _, q := range questions {
		first = append(first, ask(q))
	}
	for i, q := range slices.Backward(questions) {
		if ask(q) != first[i] {
			t.Errorf("what was asked before makes a difference: %v", q)
		}
	}
	var wait sync.WaitGroup
	for range 4 {
		wait.Go(func() {
			for i, q := range questions {
				if ask(q) != first[i] {
					t.Errorf("what is asked at the same time makes a difference: %v", q)
				}
			}
		})
	}
	wait.Wait()
}

// R2: nothing beside a false or an error, and no error but those that the chapter names.
func TestNothingBeside(t *testing.T) {
	r := rule{73}
	for _, q := range r.questions(40000) {
		a := ask(q)
		if !a.ok && a.quoted != "" {
			t.Errorf("Quote(%q) = %q, false", q.s, a.quoted)
		}
		if a.errs[0] != 0 && a.errs[0] != 3 || a.errs[0] != 0 && a.unquoted != "" {
			t.Errorf("Unquote(%q) = %q and the error %d", q.s, a.unquoted, a.errs[0])
		}
		if a.errs[1] < 0 || a.errs[1] != 0 && (a.text != "" || a.next != 0) || (a.errs[1] == 1) != (q.at < 0 || q.at > len(q.s)) {
			t.Errorf("Scan(%q, %d) = %q, %d and the error %d", q.s, q.at, a.text, a.next, a.errs[1])
		}
	}
}

// R4: two faults are two things: what is done with the one is not seen in the other.
func TestOwnFaults(t *testing.T) {
	for _, c := range []struct {
		s     string
		place int
	}{{`"\x`, 2}, {`"a"b`, 3}, {``, 0}} {
		_, err := escape.Unquote(c.s)
		var fault *api.Fault
		if !errors.As(err, &fault) {
			t.Fatalf("Unquote(%q) has no fault", c.s)
		}
		*fault = api.Fault{Err: api.ErrArg, At: 99, Path: "/1"}
		unquoteFails(t, c.s, c.place)
	}
}

var kept string

// R4: what is answered is new memory, even where it reads as what was handed in.
func TestNewMemory(t *testing.T) {
	s := `"` + strings.Repeat("abc", 20) + `"`
	calls := map[string]func(){
		"Quote":   func() { kept, _ = escape.Quote(s[1 : len(s)-1]) },
		"Unquote": func() { kept, _ = escape.Unquote(s) },
		"Scan":    func() { kept, _, _ = escape.Scan(s, 0) },
	}
	for name, call := range calls {
		if made := testing.AllocsPerRun(10, call); made < 1 {
			t.Errorf("%s makes no memory of its own", name)
		}
	}
}

// R4: what was made of bytes stays as it is, whatever becomes of them.
func TestStays(t *testing.T) {
	bytes := []byte(`"aé\n"`)
	text, err := escape.Unquote(string(bytes))
	quoted, ok := escape.Quote(string(bytes))
	clear(bytes)
	if text != "aé\n" || err != nil || quoted != `"\"aé\\n\""` || !ok {
		t.Errorf("they are %q and %q now", text, quoted)
	}
}

// R1: some million bytes.
func TestLong(t *testing.T) {
	for _, n := range []int{1 << 16, 1 << 22} {
		text := strings.Repeat("aé€😀\"\\\n\x01", n/16)
		quoted, ok := escape.Quote(text)
		if want := `"` + strings.Repeat(`aé€😀\"\\\n\u0001`, n/16) + `"`; quoted != want || !ok {
			t.Fatalf("Quote of %d bytes has %d, %v", len(text), len(quoted), ok)
		}
		if got, err := escape.Unquote(quoted); got != text || err != nil {
			t.Errorf("Unquote of %d bytes has %d, %v", len(quoted), len(got), err)
		}
		if _, err := escape.Unquote(quoted[:len(quoted)-1]); !isInput(err, len(quoted)-1) {
			t.Errorf("Unquote of %d bytes without a quote behind them: %v", len(quoted), err)
		}
		if _, err := escape.Unquote(quoted + quoted); !isInput(err, len(quoted)) {
			t.Errorf("Unquote of %d bytes twice: %v", len(quoted), err)
		}
		if got, next, err := escape.Scan(quoted+quoted, len(quoted)); got != text || next != 2*len(quoted) || err != nil {
			t.Errorf("Scan of %d bytes has %d and goes on at %d, %v", len(quoted), len(got), next, err)
		}
		if got, ok := escape.Quote(text + "\xf0\x9f\x98"); got != "" || ok {
			t.Errorf("bytes behind %d others are overlooked", len(text))
		}
		pairs := `"` + strings.Repeat(`\ud83d\uDE00`, n/12) + `"`
		if got, err := escape.Unquote(pairs); got != strings.Repeat("😀", n/12) || err != nil {
			t.Errorf("Unquote of %d pairs has %d bytes, %v", n/12, len(got), err)
		}
		noughts := strings.Repeat("\x00", n)
		quoted, _ = escape.Quote(noughts)
		if got, err := escape.Unquote(quoted); len(quoted) != 6*n+2 || got != noughts || err != nil {
			t.Errorf("%d noughts: %d bytes, %v", n, len(quoted), err)
		}
	}
}

// R1: a long text behind a short literal is not gone through for each of many.
func TestManyInALongText(t *testing.T) {
	s := strings.Repeat(`"a"`, 1<<18) + strings.Repeat("\xff", 1<<18)
	for at := 0; at < 3<<18; at += 3 {
		if text, next, err := escape.Scan(s, at); text != "a" || next != at+3 || err != nil {
			t.Fatalf("Scan at %d = %q, %d, %v", at, text, next, err)
		}
	}
}
