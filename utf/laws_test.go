package utf_test

import (
	"slices"
	"testing"
	"unicode/utf8"

	"crucible/utf"
)

// P9.7: Text undoes Runes and FromUnits undoes Units; a string is a text just if Bad is its length.
func TestUndoesOfStrings(t *testing.T) {
	r := rule{61}
	texts := 0
	for range 40000 {
		s := r.anyString(10)
		isText := utf.Bad(s) == len(s)
		runes, ok := utf.Runes(s)
		units, fits := utf.Units(s)
		if ok != isText || fits != isText || utf8.ValidString(s) != isText {
			t.Errorf("% x: Bad %d, Runes %v, Units %v", s, utf.Bad(s), ok, fits)
		}
		if !isText {
			continue
		}
		texts++
		if again, ok := utf.Text(runes); again != s || !ok {
			t.Errorf("Text(Runes(% x)) = % x, %v", s, again, ok)
		}
		if again, ok := utf.FromUnits(units); again != s || !ok {
			t.Errorf("FromUnits(Units(% x)) = % x, %v", s, again, ok)
		}
	}
	if texts < 5000 || texts > 35000 {
		t.Errorf("%d of the strings are texts", texts)
	}
}

// P9.7: Runes undoes Text and Units undoes FromUnits.
func TestUndoesOfLists(t *testing.T) {
	r := rule{63}
	for range 20000 {
		l := r.runes(10)
		s, ok := utf.Text(l)
		if again, is := utf.Runes(s); !slices.Equal(again, l) || !ok || !is {
			t.Errorf("Runes(Text(%v)) = %v, %v", l, again, is)
		}
		units := make([]uint16, r.below(6))
		for i := range units {
			units[i] = uint16(r.next())
			if r.below(2) == 0 {
				units[i] = uint16(55200 + r.below(2300))
			}
		}
		if s, ok := utf.FromUnits(units); ok {
			if again, is := utf.Units(s); !slices.Equal(again, units) || !is {
				t.Errorf("Units(FromUnits(%v)) = %v, %v", units, again, is)
			}
		}
	}
}

// P9.7: what two texts have, one behind the other, both texts one behind the other have.
func TestOneBehindTheOther(t *testing.T) {
	r := rule{65}
	for range 20000 {
		a, b := r.text(6), r.text(6)
		x, _ := utf.Runes(a)
		y, _ := utf.Runes(b)
		if s, ok := utf.Text(slices.Concat(x, y)); s != a+b || !ok {
			t.Errorf("the code points of %q and %q are %q, %v", a, b, s, ok)
		}
		if both, ok := utf.Runes(a + b); !slices.Equal(both, slices.Concat(x, y)) || !ok {
			t.Errorf("Runes(%q) = %v, %v", a+b, both, ok)
		}
		u, _ := utf.Units(a)
		v, _ := utf.Units(b)
		if s, ok := utf.FromUnits(slices.Concat(u, v)); s != a+b || !ok {
			t.Errorf("the code units of %q and %q are %q, %v", a, b, s, ok)
		}
		if both, ok := utf.Units(a + b); !slices.Equal(both, slices.Concat(u, v)) || !ok {
			t.Errorf("Units(%q) = %v, %v", a+b, both, ok)
		}
	}
}

// What First tells at the places of All is what All tells, and Bad is where they end.
func TestFirstAlongAll(t *testing.T) {
	r := rule{67}
	for range 20000 {
		s := r.anyString(10)
		end := 0
		for at, c := range utf.All(s) {
			got, n, ok := utf.First(s, at)
			if at != end || got != c || !ok {
				t.Errorf("% x at %d: All tells %d, First %d, %v", s, at, c, got, ok)
			}
			end += n
		}
		if utf.Bad(s) != end {
			t.Errorf("Bad(% x) = %d, All ends at %d", s, utf.Bad(s), end)
		}
	}
}
