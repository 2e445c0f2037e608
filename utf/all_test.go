package utf_test

import (
	"iter"
	"slices"
	"testing"

	"crucible/utf"
)

// told is what an iterator tells: places and code points by turns.
func told(steps iter.Seq2[int, rune]) []int {
	var out []int
	for at, r := range steps {
		out = append(out, at, int(r))
	}
	return out
}

func allIs(t *testing.T, s string, want ...int) {
	t.Helper()
	steps := utf.All(s)
	if steps == nil {
		t.Fatalf("All(% x) is nil", s)
	}
	for i := range 3 {
		if got := told(steps); !slices.Equal(got, want) {
			t.Errorf("All(% x), ranged over for the %dth time, tells %v, want %v", s, i+1, got, want)
		}
	}
}

// P9.6: the chapter's examples, and what is like them.
func TestAllKnown(t *testing.T) {
	allIs(t, "aé", 0, 97, 1, 233)
	allIs(t, "a\x80b", 0, 97)
	allIs(t, "")
	allIs(t, "\xff")
	allIs(t, "\x80abc")
	allIs(t, "\x00", 0, 0)
	allIs(t, "😀é€a", 0, 128512, 4, 233, 6, 8364, 9, 97)
	allIs(t, "é\xf0\x9f\x98", 0, 233)
	allIs(t, "a\xed\xa0\xbd\xed\xb8\x80", 0, 97)
	allIs(t, "\U0010ffff\xf4\x90\x80\x80", 0, 1114111)
	allIs(t, "\uFFFDa\xc0\x80a", 0, 65533, 3, 97)
}

// P9.6: broken off at every step, and ranged over again from the beginning.
func TestAllBrokenOff(t *testing.T) {
	for _, s := range []string{"aé😀b", "aé😀b\xff", "a", "\xff", ""} {
		steps := utf.All(s)
		whole := told(steps)
		for n := range len(whole)/2 + 1 {
			var got []int
			for at, r := range steps {
				got = append(got, at, int(r))
				if len(got) >= 2*n {
					break
				}
			}
			if want := whole[:min(max(2*n, 2), len(whole))]; !slices.Equal(got, want) {
				t.Errorf("All(% x), broken off, tells %v, want %v", s, got, want)
			}
			if again := told(steps); !slices.Equal(again, whole) {
				t.Errorf("All(% x), broken off and ranged over again, tells %v, want %v", s, again, whole)
			}
		}
	}
}

// P9.6: it asks for no more once it is told to stop.
func TestAllStops(t *testing.T) {
	asked := 0
	utf.All("abc")(func(int, rune) bool {
		asked++
		return false
	})
	if asked != 1 {
		t.Errorf("told %d steps, though it was to stop", asked)
	}
}

// P9.6: one within another, of the same iterator and of two, and by hand.
func TestAllNested(t *testing.T) {
	s := "aé😀\xff"
	steps := utf.All(s)
	var got []int
	for at := range steps {
		for in, r := range steps {
			if in == 3 {
				break
			}
			got = append(got, at, in, int(r))
		}
	}
	want := []int{0, 0, 97, 0, 1, 233, 1, 0, 97, 1, 1, 233, 3, 0, 97, 3, 1, 233}
	if !slices.Equal(got, want) {
		t.Errorf("one within another: %v, want %v", got, want)
	}
	first, stopFirst := iter.Pull2(steps)
	second, stopSecond := iter.Pull2(steps)
	defer stopFirst()
	defer stopSecond()
	for _, want := range [][2]int{{0, 97}, {1, 233}, {3, 128512}} {
		for _, next := range []func() (int, rune, bool){first, second} {
			if at, r, ok := next(); at != want[0] || int(r) != want[1] || !ok {
				t.Errorf("by turns: %d, %d, %v, want %v", at, r, ok, want)
			}
		}
	}
	if _, _, ok := first(); ok {
		t.Errorf("it goes on behind the last code point")
	}
}

// P9.6: any strings.
func TestAllAny(t *testing.T) {
	p, r := everyPoint(), rule{51}
	for range 20000 {
		s := r.anyString(10)
		places, runes, _ := p.steps(s)
		var want []int
		for i := range places {
			want = append(want, places[i], int(runes[i]))
		}
		allIs(t, s, want...)
	}
}
