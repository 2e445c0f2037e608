package diag_test

import (
	"strings"
	"testing"

	"crucible/api"
	"crucible/diag"
	"crucible/escape"
	"crucible/jsonread"
	"crucible/value"
)

// P22.3: the text of a value is read as that value.
func TestThereAndBack(t *testing.T) {
	r := rule{2261}
	for range 20000 {
		v := r.value(4)
		s, err := diag.Show(v)
		if err != nil {
			t.Fatalf("Show(%s): %v", dump(v), err)
		}
		reads(t, s, v)
	}
	for _, n := range []uint{4095, 4096, 4097, 10000, 1 << 20} {
		for _, v := range []api.Value{power(n), list(power(n), object(power(n), tag(1, power(n))))} {
			s, err := diag.Show(v)
			if err != nil {
				t.Fatalf("Show of 2 to the power of %d: %v", n, err)
			}
			reads(t, s, v)
		}
	}
}

// P22.3: two values have one text just if they are the same.
func TestOneTextEach(t *testing.T) {
	r := rule{2262}
	met := map[string]api.Value{}
	again := 0
	for range 50000 {
		v := r.value(2)
		s, err := diag.Show(v)
		if err != nil {
			t.Fatal(err)
		}
		if w, ok := met[s]; ok {
			again++
			if !same(v, w) {
				t.Errorf("%s and %s have one text", dump(v), dump(w))
			}
		}
		met[s] = v
	}
	if again < 5000 {
		t.Errorf("only %d have the text of another one", again)
	}
	// Those that are alike but for one thing.
	for range 5000 {
		v := r.value(3)
		w := value.Copy(v)
		r.spoil(&w)
		if value.Check(w) != nil || same(v, w) {
			continue
		}
		a, _ := diag.Show(v)
		b, _ := diag.Show(w)
		if a == b {
			t.Errorf("%s and %s have one text", dump(v), dump(w))
		}
	}
}

// P22.3: what is read may be, and its text is read as it; so it is with the text of that.
func TestReadShowRead(t *testing.T) {
	r := rule{2263}
	documents := 0
	for range 20000 {
		s := r.anyString(4)
		v, err := diag.Read(s)
		if err != nil {
			continue
		}
		documents++
		if err := value.Check(v); err != nil {
			t.Errorf("Read(%q) = %s: %v", s, dump(v), err)
		}
		one, err := diag.Show(v)
		if err != nil {
			t.Errorf("Show of what %q says: %v", s, err)
		}
		reads(t, one, v)
		shows(t, v, one)
	}
	if documents < 6000 {
		t.Errorf("%d documents", documents)
	}
	// What is read may have no text: 1e308 is short, its number is not.
	v, err := diag.Read("[" + strings.Repeat("1e308,", 10000) + "1]")
	if err != nil || value.Check(v) != nil {
		t.Error(err)
	}
	tooLong(t, v)
}

// P22.3: how a value is written makes no difference to it, blanks and remarks neither.
func TestForms(t *testing.T) {
	r := rule{2264}
	apart := 0
	for range 4000 {
		v := r.value(4)
		first := r.form(v)
		for range 5 {
			s := r.form(v)
			if s != first {
				apart++
			}
			reads(t, s, v)
		}
	}
	if apart < 10000 {
		t.Errorf("only %d are written otherwise", apart)
	}
}

// gaps puts something between, wherever the bytes of s stand as words by themselves.
func (r *rule) gaps(s string) (out string, places []int) {
	var b strings.Builder
	for at := 0; at < len(s); {
		b.WriteString(r.gap())
		size := wordSize(s[at:])
		for n := range size {
			places = append(places, b.Len()+n)
		}
		b.WriteString(s[at : at+size])
		at += size
	}
	b.WriteString(r.gap())
	return b.String(), append(places, b.Len())
}

// wordSize is how many bytes there are ahead of and behind which, but not between which, something may stand: the number of a tag and its bracket, simple( and all up to its end, ext( and its number are one each.
func wordSize(s string) int {
	for _, start := range []string{"[", "]", "{", "}", ")", ",", ":"} {
		if strings.HasPrefix(s, start) {
			return 1
		}
	}
	if s[0] == '"' {
		_, n, err := escape.Scan(s, 0)
		if err != nil {
			panic(err)
		}
		return n
	}
	n := strings.IndexAny(s, "[]{}),:(")
	switch {
	case n < 0:
		return len(s)
	case strings.HasPrefix(s, "simple("):
		return strings.IndexByte(s, ')') + 1
	case strings.HasPrefix(s, "ext("):
		return strings.IndexByte(s, ',')
	case s[n] == '(':
		return n + 1
	}
	return n
}

// P22.3: blanks and remarks where between may stand make no difference but to places.
func TestGaps(t *testing.T) {
	r := rule{2265}
	asked := 0
	for range 10000 {
		v := r.value(3)
		bare := shown(v)
		if strings.Contains(bare, `"`) {
			// What stands in a text is no blank between.
			continue
		}
		asked++
		bare = strings.ReplaceAll(bare, " ", "")
		reads(t, bare, v)
		s, _ := r.gaps(bare)
		reads(t, s, v)
		// A key that stands twice, or another bracket, is told where it stands now.
		ahead := "{" + bare + ":[" + bare + "],"
		s, places := r.gaps(ahead + bare + ":0}")
		fails(t, s, input, places[len(ahead)])
		ahead = "[" + bare + ","
		s, places = r.gaps(ahead + "]")
		fails(t, s, input, places[len(ahead)])
	}
	if asked < 4000 {
		t.Errorf("only %d", asked)
	}
}

// P22.3: what stands ahead of the place of an ErrInput can be gone on with to a text, or to one but for a key that stands twice.
func TestGoesOn(t *testing.T) {
	r := rule{2266}
	for range 8000 {
		s := r.anyString(3)
		_, err := diag.Read(s)
		e, _ := tells(err)
		if e.code != input {
			continue
		}
		ahead := s[:e.at]
		if good, _ := goodFor(ahead); good != len(ahead) {
			t.Errorf("Read(%q): %v, but %q cannot be gone on with", s, err, ahead)
		}
		// By itself it is a text, or wrong at its end, or its last key has ended now and stands twice.
		_, err = diag.Read(ahead)
		if again, _ := tells(err); again != (told{}) && (again.code != input || again.at > len(ahead)) {
			t.Errorf("Read(%q): %v", ahead, err)
		}
	}
}

// P22.3: no text goes on with the byte at that place, whatever comes behind it, unless a key that stands twice is told.
func TestBehindTheFault(t *testing.T) {
	r := rule{2267}
	for range 8000 {
		s := r.anyString(3)
		_, err := diag.Read(s)
		e, _ := tells(err)
		good, isText := goodFor(s)
		if isText || good == len(s) || e.at != good {
			continue
		}
		for range 3 {
			fails(t, s[:good+1]+r.anyString(1), input, good)
		}
	}
}

// A JSON text is a text here too, and says the same; but for numbers that are not rounded, or are infinite.
func TestOfJSON(t *testing.T) {
	for _, s := range []string{"null", " [1, 2.50, -0]\n", "{}", `{"b": "\u00e9\n", "a": [true]}`, "1e21", "1e-400", "9007199254740992", `["\ud83d\ude00", {"":{"":[[],{}]}}]`, "\t-1.5E+3\r\n", "0.1", "5e-324", "123456789012345680000.0"} {
		v, err := jsonread.Read(s)
		if err != nil {
			t.Fatal(err)
		}
		reads(t, s, v)
	}
}
