package utf_test

import (
	"slices"
	"strings"
	"sync"
	"testing"

	"crucible/utf"
)

// anyRunes makes lists of code points, and such with another number among them.
func (r *rule) anyRunes(n int) []rune {
	out := r.runes(n)
	if len(out) > 0 && r.below(3) == 0 {
		out[r.below(len(out))] = rune(uint32(r.next()))
	}
	return out
}

// anyUnits makes lists of units, about as many of them of texts as not.
func (r *rule) anyUnits(n int) []uint16 {
	out := make([]uint16, r.below(n+1))
	for i := range out {
		out[i] = uint16(r.next())
		if i > 0 && out[i-1] >= 55296 && out[i-1] < 56320 {
			out[i] = uint16(56320 + r.below(1024))
		}
	}
	return out
}

type question struct {
	s     string
	at    int
	other string
	runes []rune
	units []uint16
}

type answer struct {
	bad, n, cmp    int
	first          rune
	ok             [5]bool
	runes          []rune
	units          []uint16
	text, ofUnits  string
	places, points []int
}

func ask(q question) (a answer) {
	a.bad = utf.Bad(q.s)
	a.first, a.n, a.ok[0] = utf.First(q.s, q.at)
	a.runes, a.ok[1] = utf.Runes(q.s)
	a.text, a.ok[2] = utf.Text(q.runes)
	a.units, a.ok[3] = utf.Units(q.s)
	a.ofUnits, a.ok[4] = utf.FromUnits(q.units)
	a.cmp = utf.Cmp(q.s, q.other)
	for at, r := range utf.All(q.s) {
		a.places, a.points = append(a.places, at), append(a.points, int(r))
	}
	return a
}

func (a answer) same(b answer) bool {
	return a.bad == b.bad && a.n == b.n && a.cmp == b.cmp && a.first == b.first && a.ok == b.ok && slices.Equal(a.runes, b.runes) && slices.Equal(a.units, b.units) &&
		a.text == b.text && a.ofUnits == b.ofUnits && slices.Equal(a.places, b.places) && slices.Equal(a.points, b.points)
}

func (r *rule) questions(n int) []question {
	out := make([]question, n)
	for i := range out {
		out[i] = question{r.anyString(10), r.below(14) - 2, r.anyString(10), r.anyRunes(10), r.anyUnits(10)}
	}
	return out
}

// R1, R5: anything at all, in any order, and several at a time.
func TestSame(t *testing.T) {
	r := rule{71}
	questions := r.questions(2000)
	var first []answer
	for _, q := range questions {
		first = append(first, ask(q))
	}
	for i, q := range slices.Backward(questions) {
		if !ask(q).same(first[i]) {
			t.Errorf("what was asked before makes a difference: %v", q)
		}
	}
	var wait sync.WaitGroup
	for range 4 {
		wait.Go(func() {
			for i, q := range questions {
				if !ask(q).same(first[i]) {
					t.Errorf("what is asked at the same time makes a difference: %v", q)
				}
			}
		})
	}
	wait.Wait()
}

// R5: one iterator, ranged over by several at a time.
func TestAllAtTheSameTime(t *testing.T) {
	s := strings.Repeat("aé€😀", 2000) + "\xff"
	steps := utf.All(s)
	want := told(steps)
	var wait sync.WaitGroup
	for range 4 {
		wait.Go(func() {
			if !slices.Equal(told(steps), want) {
				t.Errorf("several at a time make a difference")
			}
		})
	}
	wait.Wait()
}

// R4: lists that are handed in are left as they were, and what is behind them; empty and nil are the same.
func TestLeftAsTheyWere(t *testing.T) {
	r := rule{73}
	for range 3000 {
		runes, units := slices.Concat(r.anyRunes(8), []rune{1, 2, 3}), slices.Concat(r.anyUnits(8), []uint16{55357, 56832, 3})
		sameRunes, sameUnits := slices.Clone(runes), slices.Clone(units)
		utf.Text(runes[:len(runes)-3])
		utf.FromUnits(units[:len(units)-3])
		utf.FromUnits(units[:len(units)-2])
		if !slices.Equal(runes, sameRunes) || !slices.Equal(units, sameUnits) {
			t.Errorf("what was handed in is changed: %v, %v", sameRunes, sameUnits)
		}
	}
	// What stands behind the end of a list does not belong to it.
	if s, ok := utf.FromUnits([]uint16{97, 55357, 56832}[:2]); s != "" || ok {
		t.Errorf("half a pair, with the other half behind the list's end: %q, %v", s, ok)
	}
}

// R4: no two answers share memory, their spare room neither.
func TestOwnMemory(t *testing.T) {
	r := rule{75}
	for range 3000 {
		s := r.text(10)
		runes, _ := utf.Runes(s)
		units, _ := utf.Units(s)
		for i := range cap(runes) {
			runes[:cap(runes)][i] = -1
		}
		for i := range cap(units) {
			units[:cap(units)][i] = 55296
		}
		again, _ := utf.Runes(s)
		unitsAgain, _ := utf.Units(s)
		if text, ok := utf.Text(again); text != s || !ok {
			t.Errorf("Runes(%q) shares memory with another answer", s)
		}
		if text, ok := utf.FromUnits(unitsAgain); text != s || !ok {
			t.Errorf("Units(%q) shares memory with another answer", s)
		}
		for i := range cap(runes) {
			if runes[:cap(runes)][i] != -1 {
				t.Errorf("Runes(%q): a later answer shares memory with it", s)
			}
		}
		for i := range cap(units) {
			if units[:cap(units)][i] != 55296 {
				t.Errorf("Units(%q): a later answer shares memory with it", s)
			}
		}
	}
}

// R4: a text that was made stays as it is, whatever becomes of the list it was made of.
func TestTextStays(t *testing.T) {
	runes, units := []rune{97, 233, 128512}, []uint16{97, 233, 55357, 56832}
	text, _ := utf.Text(runes)
	ofUnits, _ := utf.FromUnits(units)
	clear(runes)
	clear(units)
	if text != "aé😀" || ofUnits != "aé😀" {
		t.Errorf("they are %q and %q now", text, ofUnits)
	}
}

// R4: an iterator made of bytes that are changed afterwards tells what it was made of.
func TestAllKeepsContent(t *testing.T) {
	bytes := []byte("aé")
	steps := utf.All(string(bytes))
	clear(bytes)
	if got := told(steps); !slices.Equal(got, []int{0, 97, 1, 233}) {
		t.Errorf("it tells %v", got)
	}
}

// R1: some million bytes.
func TestLong(t *testing.T) {
	for _, n := range []int{1 << 18, 1 << 22} {
		s := strings.Repeat("aé€😀", n/8)
		if got := utf.Bad(s); got != len(s) {
			t.Errorf("Bad of %d bytes = %d", len(s), got)
		}
		if got := utf.Bad(s + "\xf0\x9f\x98" + s); got != len(s) {
			t.Errorf("Bad of %d bytes and others = %d", len(s), got)
		}
		runes, ok := utf.Runes(s)
		if text, is := utf.Text(runes); text != s || !ok || !is || len(runes) != n/2 {
			t.Errorf("%d code points of %d bytes, %v, %v", len(runes), len(s), ok, is)
		}
		units, ok := utf.Units(s)
		if text, is := utf.FromUnits(units); text != s || !ok || !is || len(units) != n/8*5 {
			t.Errorf("%d units of %d bytes, %v, %v", len(units), len(s), ok, is)
		}
		cmpIs(t, s, s+"a", -1)
		cmpIs(t, s, strings.Clone(s), 0)
		cmpIs(t, s+"\uFFFF", s+"😀", 1)
		if _, ok := utf.Runes(s + "\x80"); ok {
			t.Errorf("a byte behind %d others is overlooked", len(s))
		}
		if text, ok := utf.Text(append(runes, -1)); text != "" || ok {
			t.Errorf("a number behind %d others is overlooked", len(runes))
		}
		if text, ok := utf.FromUnits(append(units, 55296)); text != "" || ok {
			t.Errorf("half a pair behind %d units is overlooked", len(units))
		}
		wild := strings.Repeat("\x80\xf0\x9f\xe2\xff", n/5)
		cmpIs(t, wild, wild+"\x80", -1)
		cmpIs(t, wild, s, 1)
	}
}
