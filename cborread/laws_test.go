package cborread_test

import (
	"strings"
	"testing"

	"crucible/api"
	"crucible/cborread"
	"crucible/value"
)

// P20.3: no document is the beginning of another one.
func TestNoBeginning(t *testing.T) {
	r := rule{2071}
	for range 2000 {
		s := r.made(4, false).s
		for n := range len(s) {
			if v, err := cborread.Read(s[:n]); tells(err) != (told{input, n}) || !same(v, api.Value{}) {
				t.Errorf("Read(%s) = %s, %v, which is a beginning", hexed(s[:n]), show(v), err)
			}
		}
		more := s + r.anyString(1) + "\x00"
		fails(t, more, input, len(s))
	}
}

// P20.3: of bytes that are refused at a place each beginning that ends ahead of it is refused at its length, and what ends there is a document or refused so too.
func TestBeginnings(t *testing.T) {
	r := rule{2072}
	documents, refused := 0, 0
	for i := range 6000 {
		s := r.anyString(4)
		if i%50 == 0 {
			s = strings.Repeat(pick(&r, "\x81", "\xa1\x00", "\xc1", "\x9f", "\xbf"), 128+r.below(3)) + s
		}
		_, err := cborread.Read(s)
		e := tells(err)
		if e == (told{}) {
			continue
		}
		for n := range e.at {
			fails(t, s[:n], input, n)
		}
		if _, err := cborread.Read(s[:e.at]); err == nil {
			documents++
		} else {
			refused++
			fails(t, s[:e.at], input, e.at)
		}
		if t.Failed() {
			break
		}
	}
	if documents < 300 || refused < 1000 {
		t.Errorf("%d are documents, %d are refused", documents, refused)
	}
}

// P20.3: what comes behind the place at which bytes are refused makes no difference, unless that is their end.
func TestBehindTheFault(t *testing.T) {
	r := rule{2073}
	for range 10000 {
		s := r.anyString(3)
		_, err := cborread.Read(s)
		e := tells(err)
		if e == (told{}) || e.at == len(s) {
			continue
		}
		answers(t, s+r.anyString(2), api.Value{}, e)
		answers(t, s+r.bytes(5), api.Value{}, e)
	}
}

// P20.3: items one behind the other, each from where the one ahead ends.
func TestAlong(t *testing.T) {
	r := rule{2074}
	for range 5000 {
		var parts []made
		all := ""
		for range 1 + r.below(6) {
			parts = append(parts, r.made(3, false))
			all += parts[len(parts)-1].s
		}
		at := 0
		want := list()
		for _, part := range parts {
			nextAnswers(t, all, at, part.value, at+len(part.s), told{})
			at += len(part.s)
			want.Kids = append(want.Kids, part.value)
		}
		nextAnswers(t, all, at, api.Value{}, 0, told{input, len(all)})
		// And so they are the elements of a list.
		reads(t, heads(4, uint64(len(parts)))[0]+all, want)
		reads(t, "\x9f"+all+"\xff", want)
	}
}

// P20.3: how a value is written makes no difference to it.
func TestForms(t *testing.T) {
	r := rule{2075}
	apart := 0
	for range 5000 {
		v := r.value(4)
		first := r.form(v)
		for range 6 {
			s := r.form(v)
			if s != first {
				apart++
			}
			reads(t, s, v)
		}
	}
	if apart < 10000 {
		t.Errorf("only %d are written otherwise", apart)
	}
}

// P20.3: pieces, breaks, longer heads and wider floats one by one, where everything else stays.
func TestOneForm(t *testing.T) {
	for _, c := range [][2]string{
		{"43 61 62 63", "5f 41 61 42 62 63 ff"}, {"63 61 62 63", "7f 62 61 62 60 61 63 ff"}, {"60", "7f ff"}, {"82 01 02", "9f 01 02 ff"}, {"a1 01 02", "bf 01 02 ff"}, {"80", "98 00"}, {"a0", "bb 00 00 00 00 00 00 00 00"}, {"05", "1a 00 00 00 05"}, {"24", "38 04"}, {"41 07", "59 00 01 07"}, {"61 61", "7a 00 00 00 01 61"}, {"c1 00", "d8 01 00"}, {"c2 41 05", "da 00 00 00 02 41 05"},
		{"f9 3e 00", "fa 3f c0 00 00"}, {"f9 3e 00", "fb 3f f8 00 00 00 00 00 00"}, {"f9 7c 00", "fb 7f f0 00 00 00 00 00 00"}, {"f9 00 01", "fa 33 80 00 00"}, {"f9 7e 00", "fb ff f8 00 00 00 00 00 01"}, {"fa 3d cc cc cd", "fb 3f b9 99 99 a0 00 00 00"}, {"01", "f9 3c 00"},
	} {
		a, err := cborread.Read(of(c[0]))
		if err != nil {
			t.Fatalf("Read(%s): %v", c[0], err)
		}
		reads(t, of(c[1]), a)
		reads(t, "\x82"+of(c[0])+of(c[1]), list(a, a))
		reads(t, "\xa1"+of(c[0])+of(c[1]), object(a, a))
		fails(t, "\xa2"+of(c[0])+"\x00"+of(c[1])+"\x00", input, 2+len(of(c[0])))
	}
}

// P20.3: what is read may be; the values of two documents are the same just if the values were.
func TestOneValueEach(t *testing.T) {
	r := rule{2076}
	for range 3000 {
		a, b := r.value(2), r.value(2)
		if r.below(4) == 0 {
			b = value.Copy(a)
		}
		v, err := cborread.Read(r.form(a))
		w, errToo := cborread.Read(r.form(b))
		if err != nil || errToo != nil || same(v, w) != same(a, b) || value.Compare(v, w) != value.Compare(a, b) {
			t.Errorf("%s and %s are read as %s, %v and %s, %v", show(a), show(b), show(v), err, show(w), errToo)
		}
	}
}

// P20.3: in a list, a map or a tag an item is what it is by itself, as long as the depth allows it.
func TestWithin(t *testing.T) {
	r := rule{2077}
	for i := range 10000 {
		x := r.made(3, i%2 == 0)
		for _, c := range []struct {
			ahead, behind string
			want          api.Value
		}{{"\x81", "", list(x.value)}, {"\x9f\x00", "\xff", list(whole("0"), x.value)}, {"\xa1\xf6", "", object(null, x.value)}, {"\xbf", "\x01\xff", object(x.value, whole("1"))}, {"\xc7", "", tag(7, x.value)}} {
			if x.told != (told{}) {
				c.want = api.Value{}
			}
			answers(t, c.ahead+x.s+c.behind, c.want, x.told.farther(len(c.ahead)))
		}
	}
}

// P20.3: till that is too deep.
func TestWithinToTheLimit(t *testing.T) {
	r := rule{2078}
	for range 30 {
		x := r.made(4, false)
		s, v := x.s, x.value
		for range 128 - value.Depth(v) {
			s, v = "\x81"+s, list(v)
			answers(t, s, v, told{})
		}
		sameAsReference(t, "\x81"+s)
		if _, err := cborread.Read("\x81" + s); tells(err).code != limit {
			t.Errorf("Read(%s): %v", hexed("\x81"+s), err)
		}
	}
}
