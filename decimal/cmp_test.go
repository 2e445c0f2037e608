package decimal_test

import (
	"strings"
	"testing"

	"crucible/api"
	"crucible/decimal"
)

// wantCmp asks both ways round, and with the other signs.
func wantCmp(t *testing.T, a, b api.Digits, want int) {
	t.Helper()
	for _, c := range []struct {
		a, b api.Digits
		want int
	}{{a, b, want}, {b, a, -want}, {minus(a), minus(b), -want}, {minus(b), minus(a), want}} {
		if got, ok := decimal.Cmp(c.a, c.b); got != c.want || !ok {
			t.Errorf("Cmp(%s, %s) = %d, %v, want %d", show(c.a), show(c.b), got, ok, c.want)
		}
	}
}

func plus(text string, point int) api.Digits { return api.Digits{Text: text, Point: point} }

// P7.3 at what the document names, and at what follows by hand.
func TestKnownCmp(t *testing.T) {
	for _, c := range []struct {
		a, b api.Digits
		want int
	}{
		{plus("1", 0), plus("10", 0), 0}, {plus("1", 0), plus("9", -1), 1}, {minus(plus("1", 5)), plus("1", -5), -1}, {plus("", 0), minus(plus("00", 3)), 0},
		{plus("1", least), plus("0", 0), 1}, {plus("01", most), plus("1", most-1), 0},
		// 0 and -0, however they are written.
		{plus("", 0), plus("", 0), 0}, {plus("", 0), minus(plus("", 0)), 0}, {plus("000", most), minus(plus("0", least)), 0}, {plus("", most), plus("", least), 0}, {plus("0", 9), plus("1", least), -1}, {minus(plus("0", 9)), plus("1", least), -1}, {minus(plus("0", 9)), minus(plus("1", least)), 1},
		// The beginning of longer digits, and other ones.
		{plus("12", 0), plus("121", 0), -1}, {plus("12", 0), plus("1200", 0), 0}, {plus("12", 0), plus("120001", 0), -1}, {plus("13", 0), plus("129999", 0), 1}, {plus("2", 0), plus("19", 0), 1}, {plus("9", 3), plus("10", 4), -1},
		// Noughts ahead.
		{plus("01", 1), plus("1", 0), 0}, {plus("0001", 2), plus("1", -1), 0}, {plus("0001", 2), plus("1", 0), -1}, {plus("0001", 2), plus("1", -2), 1}, {plus("001", 5), plus("0001", 6), 0}, {plus("001", 5), plus("0001", 5), 1}, {plus("001", 5), plus("0001", 7), -1},
		// Points at the ends of what an int may be: their difference is none, nor are noughts ahead taken from the least.
		{plus("1", least), plus("1", most), -1}, {plus("9", least), plus("1", most), -1}, {plus("1", least), plus("01", least), 1}, {plus("1", least), plus("01", least+1), 0}, {plus("1", least), plus("001", least+1), 1}, {plus("01", least), plus("001", least), 1}, {plus("01", least), plus("001", least+1), 0}, {plus("02", least), plus("001", least+1), 1}, {plus("01", least), plus("0001", least+1), 1}, {plus("01", least), plus("1", most), -1}, {plus("01", least), plus("01", most), -1}, {plus("000001", most), plus("000001", least), 1}, {plus("1", most), plus("1", most), 0}, {plus("1", most), plus("1", most-1), 1}, {plus("1", most), plus("01", most), 1}, {plus("1", most-1), plus("01", most), 0}, {plus("2", most-1), plus("01", most), 1}, {plus("1", most-2), plus("01", most), -1}, {plus("1", -1), plus("1", most), -1}, {plus("01", 0), plus("1", most), -1}, {plus("1", least), plus("1", 0), -1}, {plus("1", least), plus("00001", 1), -1},
	} {
		wantCmp(t, c.a, c.b, c.want)
	}
	wantCmp(t, plus("1", 5), minus(plus("9", 9)), 1)
	wantCmp(t, plus("1", least), minus(plus("1", most)), 1)
}

// P7.3, R2: a byte that is no digit in the one, in the other, in both.
func TestCmpNoDecimal(t *testing.T) {
	long := strings.Repeat("987", 500)
	good := []api.Digits{{}, plus("1", 0), plus("0", 0), minus(plus("5", most)), plus(long, least)}
	for c := range 256 {
		if '0' <= c && c <= '9' {
			continue
		}
		wrong := string([]byte{byte(c)})
		for _, text := range []string{wrong, wrong + "1", "1" + wrong, "1" + wrong + "2", long + wrong, wrong + long, long + wrong + long, "000" + wrong} {
			bad := plus(text, c-100)
			for _, d := range good {
				for _, pair := range [][2]api.Digits{{bad, d}, {d, bad}, {bad, bad}, {minus(bad), d}} {
					if n, ok := decimal.Cmp(pair[0], pair[1]); n != 0 || ok {
						t.Errorf("Cmp(%s, %s) = %d, %v", show(pair[0]), show(pair[1]), n, ok)
					}
				}
			}
		}
	}
	if n, ok := decimal.Cmp(plus("١", 0), plus("1", 0)); n != 0 || ok {
		t.Errorf("Cmp of other digits = %d, %v", n, ok)
	}
}

// cmpByWords holds two numbers against each other as whole numbers of one unit.
func cmpByWords(a, b api.Digits) int {
	x, y := size(a), size(b)
	switch {
	case len(x.m) == 0 && len(y.m) == 0:
		return 0
	case a.Neg && b.Neg:
		return y.cmp(x)
	case a.Neg:
		return -1
	case b.Neg:
		return 1
	}
	return x.cmp(y)
}

// close are numbers that are often the same: few digits, many noughts, Points side by side.
func (r *rule) close() api.Digits {
	n := int(r.next() % 6)
	text := make([]byte, n)
	for i := range text {
		text[i] = "0001295"[r.next()%7]
	}
	return api.Digits{Neg: r.next()%3 == 0, Text: string(text), Point: int(r.next()%5) - 2}
}

// P7.3, held against whole numbers of one unit.
func TestCmpByTheWords(t *testing.T) {
	r := rule{5}
	met := [3]int{}
	for range 40000 {
		a, b := r.close(), r.close()
		want := cmpByWords(a, b)
		met[want+1]++
		wantCmp(t, a, b, want)
		// The same, as far out as Points reach.
		for _, far := range []int{most - 2, least + 2} {
			x, y := a, b
			x.Point += far
			y.Point += far
			wantCmp(t, x, y, want)
		}
	}
	for _, n := range met {
		if n < 2000 {
			t.Errorf("below, the same, above: %v", met)
		}
	}
	for range 300 {
		a := plus(r.text(1+int(r.next()%3000)), int(r.next()%9)-4)
		b := plus(a.Text[:len(a.Text)*int(r.next()%5)/4]+r.text(int(r.next()%3)), a.Point+int(r.next()%8/7))
		wantCmp(t, a, b, cmpByWords(a, b))
	}
}

// P7.3: digits far behind tell too, and no digit is left out.
func TestCmpFarBehind(t *testing.T) {
	for _, n := range []int{10, 799, 800, 801, 5000, 100000} {
		same := strings.Repeat("7", n)
		wantCmp(t, plus(same+"1", 3), plus(same+"2", 3), -1)
		wantCmp(t, plus(same+"1", 3), plus(same, 3), 1)
		wantCmp(t, plus(same+"0", 3), plus(same, 3), 0)
		wantCmp(t, plus(same+"00001", 3), plus(same, 3), 1)
		noughts := strings.Repeat("0", n)
		wantCmp(t, plus(noughts+"1", n), plus("1", 0), 0)
		wantCmp(t, plus(noughts+"1", n-1), plus("1", 0), -1)
		wantCmp(t, plus(noughts+"1", n+1), plus("1", 0), 1)
		wantCmp(t, plus(noughts+"1", least), plus("1", least), -1)
		wantCmp(t, plus(noughts+"1", least+n), plus("1", least), 0)
		wantCmp(t, plus(noughts+"1", most), plus("1", most-n), 0)
		wantCmp(t, plus(noughts, most), plus("", least), 0)
	}
}
