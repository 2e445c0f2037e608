package jsonread_test

import (
	"slices"
	"strings"
	"testing"

	"crucible/api"
	"crucible/jsonread"
	"crucible/value"
)

// farther is what is told with its place so much farther on.
func (e told) farther(by int) told {
	if e.code != 0 {
		e.at += by
	}
	return e
}

// P17.2: blanks ahead and behind make no difference but to places.
func TestBlanksAround(t *testing.T) {
	r := rule{1711}
	for range 5000 {
		x := r.made(3, r.below(2) == 0)
		for range 4 {
			ahead, behind := r.blanks()+r.blanks(), r.blanks()+r.blanks()
			answers(t, ahead+x.s+behind, x.value, x.told().farther(len(ahead)))
		}
	}
	// Of what is no JSON text too, but for blanks behind what is not ended.
	for range 5000 {
		s := r.anyString(3)
		v, err := jsonread.Read(s)
		e := tells(err)
		ahead := strings.Repeat(pick(&r, " ", "\t", "\n", "\r"), 1+r.below(5))
		answers(t, ahead+s, v, e.farther(len(ahead)))
		if e.code == 0 || e.at < len(s) {
			answers(t, s+r.blanks(), v, e)
		}
	}
}

// P17.2: a text between [ and ] is read as the list of its value, a place in it one byte farther on.
func TestBrackets(t *testing.T) {
	r := rule{1712}
	for range 5000 {
		x := r.made(3, r.below(2) == 0)
		want, wantMap := list(x.value), object(text("k"), x.value)
		if x.wrong >= 0 {
			want, wantMap = api.Value{}, api.Value{}
		}
		answers(t, "["+x.s+"]", want, x.told().farther(1))
		answers(t, `{"k":`+x.s+"}", wantMap, x.told().farther(5))
	}
}

// P17.2: till that is too deep.
func TestBracketsToTheLimit(t *testing.T) {
	r := rule{1713}
	for range 30 {
		x := r.made(4, r.below(3) == 0)
		s, v, e := x.s, x.value, x.told()
		for range 128 - x.depth {
			s, v, e = "["+s+"]", list(v), e.farther(1)
			if e.code != 0 {
				v = api.Value{}
			}
			answers(t, s, v, e)
		}
		// Now the innermost bracket is one too many: where it stands is where the depth is reached for the first time.
		at := 0
		for e, depth := scans(s[:at]); depth < 128; e, depth = scans(s[:at]) {
			at++
			if at > len(s) {
				t.Fatalf("%v: %q is not that deep", e, cut(s))
			}
		}
		fails(t, "["+s+"]", limit, at)
		fails(t, " ["+s, limit, at+1)
	}
}

// P17.2: the list of several texts is the list of their values; the first that is wrong tells.
func TestJoined(t *testing.T) {
	r := rule{1714}
	for range 5000 {
		want, e, s := list(), told{}, "["
		for i := range 1 + r.below(4) {
			if i > 0 {
				s += ","
			}
			x := r.made(2, r.below(4) == 0)
			if e.code == 0 {
				e = x.told().farther(len(s))
			}
			want.Kids = append(want.Kids, x.value)
			s += x.s
		}
		if e.code != 0 {
			want = api.Value{}
		}
		answers(t, s+"]", want, e)
	}
}

// P17.2: the map of several texts is the one that value.Map makes, in whatever order they stand; and each is found by its key.
func TestMaps(t *testing.T) {
	r := rule{1715}
	for range 3000 {
		var parts []string
		var kids []api.Value
		for range r.below(8) {
			key := r.text()
			if slices.ContainsFunc(kids, func(v api.Value) bool { return same(v, text(key)) }) {
				continue
			}
			x := r.made(2, false)
			x.value = list(x.value)
			parts = append(parts, r.blanks()+r.literal(key)+r.blanks()+":["+x.s+"]")
			kids = append(kids, text(key), x.value)
		}
		want, err := value.Map(kids...)
		if err != nil {
			t.Fatal(err)
		}
		reads(t, "{"+strings.Join(parts, ",")+"}", want)
		slices.Reverse(parts)
		s := "{" + strings.Join(parts, ",") + "}"
		reads(t, s, want)
		v, _ := jsonread.Read(s)
		for i := 0; i < len(kids); i += 2 {
			if got, ok := value.Find(v, kids[i]); !ok || !same(got, kids[i+1]) {
				t.Errorf("in %q behind %q: %s, %v", s, kids[i].Text, show(got), ok)
			}
		}
	}
}
