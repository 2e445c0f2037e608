package ecma_test

import (
	"errors"
	"slices"
	"strings"
	"sync"
	"testing"

	"crucible/api"
	"crucible/ecma"
)

// anyText makes JSON numbers, what looks like them, and bytes of any kind.
func (r *rule) anyText() string {
	out := make([]byte, r.below(12))
	switch r.below(3) {
	case 0:
		return r.number(400)
	case 1:
		for i := range out {
			out[i] = "-+.eE0123456789"[r.below(15)]
		}
	default:
		for i := range out {
			out[i] = byte(r.next())
		}
	}
	return string(out)
}

// anyDigits makes what Layout lays out, and others.
func (r *rule) anyDigits() api.Digits {
	d := api.Digits{Neg: r.below(2) == 0, Text: r.text(r.below(30)), Point: r.below(60) - 30}
	switch r.below(4) {
	case 0:
		d.Text = r.bare(1 + r.below(30))
	case 1:
		d.Text = r.anyText()
	case 2:
		d.Point = int(r.next())
	}
	return d
}

type answer struct {
	text string
	bits uint64
	ok   bool
	at   int
}

func ask(digits []api.Digits, texts []string, patterns []uint64) []answer {
	var out []answer
	for _, d := range digits {
		text, ok := ecma.Layout(d)
		out = append(out, answer{text: text, ok: ok})
	}
	for _, x := range patterns {
		out = append(out, answer{text: ecma.Show(x)})
	}
	for _, s := range texts {
		x, err := ecma.Read(s)
		got := answer{bits: x, ok: err == nil}
		var fault *api.Fault
		if errors.As(err, &fault) {
			got.at = fault.At
		}
		out = append(out, got)
	}
	return out
}

// R1, R5: anything at all, in any order, and several at a time.
func TestSame(t *testing.T) {
	r := rule{71}
	var digits []api.Digits
	var texts []string
	var patterns []uint64
	for range 2000 {
		digits, texts, patterns = append(digits, r.anyDigits()), append(texts, r.anyText()), append(patterns, r.next())
	}
	first := ask(digits, texts, patterns)
	ask(digits[100:], texts[50:], patterns[70:])
	if !slices.Equal(first, ask(digits, texts, patterns)) {
		t.Errorf("what was asked before makes a difference")
	}
	answers := make([][]answer, 4)
	var wait sync.WaitGroup
	for i := range answers {
		wait.Go(func() { answers[i] = ask(digits, texts, patterns) })
	}
	wait.Wait()
	for _, got := range answers {
		if !slices.Equal(got, first) {
			t.Errorf("what is asked at the same time makes a difference")
		}
	}
}

// P8.1, P8.3, R2: an answer just where the document has one, and nothing beside a false or an error.
func TestAnswerJustWhere(t *testing.T) {
	r := rule{73}
	for range 20000 {
		d := r.anyDigits()
		bare := d.Text != "" && strings.Trim(d.Text, "0123456789") == "" && strings.Trim(d.Text, "0") == d.Text
		if text, ok := ecma.Layout(d); ok != bare || (text == "") != !bare {
			t.Errorf("Layout(%v) = %q, %v", d, text, ok)
		}
		s := r.anyText()
		if x, err := ecma.Read(s); isNumber(s) {
			if err != nil && x != 0 {
				t.Errorf("Read(%q) = %#x, %v", s, x, err)
			}
		} else {
			wantFault(t, s, firstWrong(s))
		}
	}
}

// R4: two faults are two things: what is done with the one is not seen in the other.
func TestOwnFaults(t *testing.T) {
	for _, s := range []string{"", "1x", "1e309"} {
		_, first := ecma.Read(s)
		var fault *api.Fault
		errors.As(first, &fault)
		at := fault.At
		*fault = api.Fault{Err: api.ErrArg, At: 99, Path: "/1"}
		wantFault(t, s, at)
	}
}

var kept string

// R4: what Layout answers is new memory, even where it reads as the digits handed in.
func TestNewMemory(t *testing.T) {
	for _, d := range []api.Digits{{Text: "123", Point: 3}, {Text: "123456789", Point: 9}, {Text: strings.Repeat("7", 21), Point: 21}, {Neg: true, Text: "15", Point: 1}} {
		if made := testing.AllocsPerRun(10, func() { kept, _ = ecma.Layout(d) }); made < 1 {
			t.Errorf("Layout(%v) makes no memory of its own", d)
		}
	}
}

// R1: some million digits.
func TestLongTexts(t *testing.T) {
	for _, n := range []int{1 << 20, 1 << 24} {
		ones, noughts := strings.Repeat("1", n), strings.Repeat("0", n)
		wantLayout(t, ones, 21, ones[:21]+"."+ones[21:])
		wantLayout(t, ones, -6, "1."+ones[1:]+"e-7")
		wantLayout(t, "1"+noughts+"1", -5, "0.000001"+noughts+"1")
		if text, ok := ecma.Layout(api.Digits{Text: ones + "0", Point: 1}); text != "" || ok {
			t.Errorf("Layout of %d digits and a 0 behind: %v", n, ok)
		}
		wantRead(t, "1."+ones, 0x3ff1c71c71c71c72)
		wantRead(t, "0."+noughts+"1e"+quoted(n+1), 0x3ff0000000000000)
		wantRead(t, "1"+noughts+"e-"+quoted(n), 0x3ff0000000000000)
		wantRead(t, "1e-"+ones, 0)
		wantRead(t, "0."+noughts+"e"+ones, 0)
		wantFault(t, ones, 0)
		wantFault(t, "1e"+ones, 0)
		wantFault(t, ones+"x", n)
		wantFault(t, ones+".", n+1)
		wantFault(t, "1e"+ones+"-", n+2)
		wantFault(t, noughts, 1)
	}
}
