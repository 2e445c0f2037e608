package ecma_test

import (
	"strings"
	"testing"

	"crucible/api"
	"crucible/decimal"
	"crucible/ecma"
)

// sample are finite patterns above 0: some, each with the next one, and any others.
func sample() []uint64 {
	var out []uint64
	for _, x := range some() {
		if x > 0 {
			out = append(out, x)
		}
		if x+1 < infinite {
			out = append(out, x+1)
		}
	}
	r := rule{41}
	for range 3000 {
		out = append(out, 1+r.next()%(infinite-1))
	}
	return out
}

// read is what Read answers of a JSON number that is finite.
func read(t *testing.T, s string) uint64 {
	t.Helper()
	x, err := ecma.Read(s)
	if err != nil {
		t.Fatalf("Read(%q): %v", cut(s), err)
	}
	return x
}

// P8.4: Read of what Show tells of a finite pattern is that pattern, and the text is a JSON number.
func TestReadBack(t *testing.T) {
	for _, size := range sample() {
		for _, x := range []uint64{size, size + sign} {
			s := ecma.Show(x)
			if !isNumber(s) {
				t.Errorf("Show(%#x) = %q, no JSON number", x, s)
			}
			if got := read(t, s); got != x {
				t.Errorf("Show(%#x) = %q, which is read as %#x", x, s, got)
			}
		}
	}
	for _, x := range []uint64{0, sign} {
		if s := ecma.Show(x); read(t, s) != 0 {
			t.Errorf("Show(%#x) = %q, which is read as %#x", x, s, read(t, s))
		}
	}
}

// digitsOf are the digits of a JSON number as the document counts them: those of the power, noughts ahead and noughts at the end of whole numbers left out.
func digitsOf(s string) string {
	parts := number.FindStringSubmatch(s)
	text := strings.TrimLeft(parts[2]+parts[3], "0")
	if parts[3] == "" {
		text = strings.TrimRight(text, "0")
	}
	return text
}

// oneMore is the number of as many digits that is one more in the last place.
func oneMore(text string, point int) (string, int) {
	digits := []byte(text)
	for i := len(digits) - 1; i >= 0; i-- {
		if digits[i] < '9' {
			digits[i]++
			return string(digits), point
		}
		digits[i] = '0'
	}
	return "1" + string(digits), point + 1
}

// asJSON writes 0.text times 10 to the power of point by hand, so that it does not hang on Layout.
func asJSON(text string, point int) string {
	if point < 0 {
		return "0." + text + "e-" + quoted(-point)
	}
	return "0." + text + "e" + quoted(point)
}

func quoted(n int) string {
	if n < 10 {
		return string(rune('0' + n))
	}
	return quoted(n/10) + string(rune('0'+n%10))
}

// P8.4, P0.6: with fewer digits another pattern is read. (Those that are read as x lie side by side about it, so the two next to it are enough.)
func TestFewest(t *testing.T) {
	for _, x := range sample() {
		count := len(digitsOf(ecma.Show(x)))
		exact, _ := decimal.Exact(x)
		for n := range min(count, len(exact.Text)) {
			if n == 0 {
				continue
			}
			above, point := oneMore(exact.Text[:n], exact.Point)
			for _, s := range []string{asJSON(exact.Text[:n], exact.Point), asJSON(above, point)} {
				if got, err := ecma.Read(s); got == x && err == nil {
					t.Errorf("Show(%#x) = %q, but %q is read as it too", x, ecma.Show(x), s)
				}
			}
		}
	}
}

// P8.4: no number of one or two digits, with any power, is read as a pattern that is shown with more.
func TestFewestOfAll(t *testing.T) {
	for n := 1; n < 100; n++ {
		for power := -340; power <= 310; power++ {
			s := quoted(n) + "e" + quoted(power)
			if power < 0 {
				s = quoted(n) + "e-" + quoted(-power)
			}
			x, err := ecma.Read(s)
			if err != nil || x == 0 {
				continue
			}
			if shown := ecma.Show(x); len(digitsOf(shown)) > len(digitsOf(s)) {
				t.Errorf("%s is read as %#x, which is shown as %q", s, x, shown)
			}
		}
	}
}

// P0.6: of those with as few digits that are read as the pattern the closest one is told.
func TestClosest(t *testing.T) {
	for _, x := range sample() {
		shown := ecma.Show(x)
		exact, _ := decimal.Exact(x)
		c, _ := decimal.Cmp(inDigits(shown), exact)
		if c == 0 {
			continue
		}
		// The two numbers beside the exact one, and what lies halfway.
		low, point := exact.Text[:len(digitsOf(shown))], exact.Point
		side, _ := decimal.Cmp(exact, api.Digits{Text: low + "5", Point: point})
		other := asJSON(low, point)
		if c < 0 {
			other = asJSON(oneMore(low, point))
		}
		if got, err := ecma.Read(other); c*side < 0 && got == x && err == nil {
			t.Errorf("Show(%#x) = %q: %q is closer", x, shown, other)
		}
	}
}

// P8.4: the texts of unlike finite patterns are unlike, but for the two noughts.
func TestUnlike(t *testing.T) {
	of := map[string]uint64{ecma.Show(0): 0}
	for _, size := range sample() {
		for _, x := range []uint64{size, size + sign} {
			s := ecma.Show(x)
			if y, met := of[s]; met && y != x {
				t.Errorf("%#x and %#x are both shown as %q", x, y, s)
			}
			of[s] = x
		}
	}
	if ecma.Show(0) != ecma.Show(sign) {
		t.Errorf("the noughts are shown as %q and %q", ecma.Show(0), ecma.Show(sign))
	}
}

// P8.4: Show of what Read answers is read as the same again, but for -0.
func TestReadShowRead(t *testing.T) {
	r := rule{43}
	for i := range 20000 {
		s := r.number([]int{5, 25, 350}[i%3])
		x, err := ecma.Read(s)
		if err != nil {
			continue
		}
		want := x
		if x == sign {
			want = 0
		}
		if again := read(t, ecma.Show(x)); again != want {
			t.Errorf("%q is read as %#x, shown as %q, which is read as %#x", s, x, ecma.Show(x), again)
		}
	}
}
