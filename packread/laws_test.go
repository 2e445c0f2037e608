package packread_test

import (
	"strings"
	"testing"

	"crucible/api"
	"crucible/packread"
	"crucible/value"
)

// P23.3: no document is the beginning of another one.
func TestNoBeginning(t *testing.T) {
	r := rule{2071}
	for range 1000 {
		s := r.made(4, false).s
		for n := range len(s) {
			if v, err := packread.Read(s[:n]); tells(err) != (told{input, n}) || !same(v, api.Value{}) {
				t.Errorf("Read(%s) = %s, %v, which is a beginning", hexed(s[:n]), show(v), err)
			}
		}
		more := s + r.anyString(1) + "\x00"
		fails(t, more, input, len(s))
	}
}

// P23.3: of bytes that are refused at a place each beginning that ends ahead of it is refused at its length, and what ends there is a document or refused so too.
func TestBeginnings(t *testing.T) {
	r := rule{2072}
	documents, refused := 0, 0
	for i := range 6000 {
		s := r.anyString(4)
		if i%50 == 0 {
			s = strings.Repeat(pick(&r, "\x91", "\x81\x00", "\x81", "\xdc\x00\x01", "\xdf\x00\x00\x00\x02\x01"), 128+r.below(3)) + s
		}
		_, err := packread.Read(s)
		e := tells(err)
		if e == (told{}) {
			continue
		}
		for n := range e.at {
			fails(t, s[:n], input, n)
		}
		if _, err := packread.Read(s[:e.at]); err == nil {
			documents++
		} else {
			refused++
			fails(t, s[:e.at], input, e.at)
		}
		if t.Failed() {
			break
		}
	}
	if documents < 300 || refused < 1000 {
		t.Errorf("%d are documents, %d are refused", documents, refused)
	}
}

// P23.3: what comes behind the place at which bytes are refused makes no difference, unless that is their end.
func TestBehindTheFault(t *testing.T) {
	r := rule{2073}
	for range 10000 {
		s := r.anyString(3)
		_, err := packread.Read(s)
		e := tells(err)
		if e == (told{}) || e.at == len(s) {
			continue
		}
		answers(t, s+r.anyString(2), api.Value{}, e)
		answers(t, s+r.bytes(5), api.Value{}, e)
	}
}

// P23.3: items one behind the other, each from where the one ahead ends.
func TestAlong(t *testing.T) {
	r := rule{2074}
	for range 5000 {
		var parts []made
		all := ""
		for range 1 + r.below(6) {
			parts = append(parts, r.made(3, false))
			all += parts[len(parts)-1].s
		}
		at := 0
		want := list()
		for _, part := range parts {
			nextAnswers(t, all, at, part.value, at+len(part.s), told{})
			at += len(part.s)
			want.Kids = append(want.Kids, part.value)
		}
		nextAnswers(t, all, at, api.Value{}, 0, told{input, len(all)})
		// And so they are the elements of a list.
		for _, head := range heads(api.VList, len(parts)) {
			reads(t, head+all, want)
		}
	}
}

// P23.3: how a value is written makes no difference to it.
func TestForms(t *testing.T) {
	r := rule{2075}
	apart := 0
	for range 5000 {
		v := r.value(4)
		first := r.form(v)
		for range 6 {
			s := r.form(v)
			if s != first {
				apart++
			}
			reads(t, s, v)
		}
	}
	if apart < 10000 {
		t.Errorf("only %d are written otherwise", apart)
	}
}

// P23.3: wider families of the same kind and whole numbers as floats one by one, where everything else stays.
func TestOneForm(t *testing.T) {
	for _, c := range [][2]string{
		{"05", "cc 05"}, {"05", "cd 00 05"}, {"05", "ce 00 00 00 05"}, {"05", "cf 00 00 00 00 00 00 00 05"}, {"05", "d0 05"}, {"05", "d1 00 05"}, {"05", "d2 00 00 00 05"}, {"05", "d3 00 00 00 00 00 00 00 05"}, {"cc 80", "d1 00 80"}, {"cf 7f ff ff ff ff ff ff ff", "d3 7f ff ff ff ff ff ff ff"},
		{"ff", "d0 ff"}, {"ff", "d1 ff ff"}, {"e0", "d2 ff ff ff e0"}, {"d0 80", "d3 ff ff ff ff ff ff ff 80"}, {"05", "ca 40 a0 00 00"}, {"05", "cb 40 14 00 00 00 00 00 00"}, {"ff", "ca bf 80 00 00"}, {"00", "ca 80 00 00 00"}, {"d3 80 00 00 00 00 00 00 00", "ca df 00 00 00"}, {"cf 80 00 00 00 00 00 00 00", "cb 43 e0 00 00 00 00 00 00"},
		{"ca 3f c0 00 00", "cb 3f f8 00 00 00 00 00 00"}, {"ca 7f 80 00 00", "cb 7f f0 00 00 00 00 00 00"}, {"ca 7f c0 00 00", "cb ff f0 00 00 00 00 00 01"}, {"ca 00 00 00 01", "cb 36 a0 00 00 00 00 00 00"}, {"ca 5f 80 00 00", "cb 43 f0 00 00 00 00 00 00"},
		{"a1 61", "d9 01 61"}, {"a0", "da 00 00"}, {"a1 61", "db 00 00 00 01 61"}, {"c4 01 07", "c5 00 01 07"}, {"c4 00", "c6 00 00 00 00"}, {"92 01 02", "dc 00 02 01 02"}, {"90", "dd 00 00 00 00"}, {"81 01 02", "de 00 01 01 02"}, {"80", "df 00 00 00 00"}, {"82 01 02 03 04", "82 03 04 01 02"},
		{"d4 05 01", "c7 01 05 01"}, {"d5 ff 01 02", "c8 00 02 ff 01 02"}, {"d6 00 01 02 03 04", "c9 00 00 00 04 00 01 02 03 04"}, {"c7 00 05", "c9 00 00 00 00 05"}, {"c7 03 80 01 02 03", "c8 00 03 80 01 02 03"}, {"d7 07 01 02 03 04 05 06 07 08", "c7 08 07 01 02 03 04 05 06 07 08"}, {"d8 07 01 02 03 04 05 06 07 08 01 02 03 04 05 06 07 08", "c7 10 07 01 02 03 04 05 06 07 08 01 02 03 04 05 06 07 08"},
	} {
		a, err := packread.Read(of(c[0]))
		if err != nil {
			t.Fatalf("Read(%s): %v", c[0], err)
		}
		reads(t, of(c[1]), a)
		reads(t, "\x92"+of(c[0])+of(c[1]), list(a, a))
		reads(t, "\x81"+of(c[0])+of(c[1]), object(a, a))
		fails(t, "\x82"+of(c[0])+"\x00"+of(c[1])+"\x00", input, 2+len(of(c[0])))
	}
}

// P23.3: what is read may be; the values of two documents are the same just if the values were.
func TestOneValueEach(t *testing.T) {
	r := rule{2076}
	for range 3000 {
		a, b := r.value(2), r.value(2)
		if r.below(4) == 0 {
			b = value.Copy(a)
		}
		v, err := packread.Read(r.form(a))
		w, errToo := packread.Read(r.form(b))
		if err != nil || errToo != nil || same(v, w) != same(a, b) || value.Compare(v, w) != value.Compare(a, b) {
			t.Errorf("%s and %s are read as %s, %v and %s, %v", show(a), show(b), show(v), err, show(w), errToo)
		}
	}
}

// P23.3: in a list or a map an item is what it is by itself, as long as the depth allows it.
func TestWithin(t *testing.T) {
	r := rule{2077}
	for i := range 10000 {
		x := r.made(3, i%2 == 0)
		for _, c := range []struct {
			ahead, behind string
			want          api.Value
		}{{"\x91", "", list(x.value)}, {"\xdc\x00\x03\x00", "\xff", list(whole("0"), x.value, whole("-1"))}, {"\x81\xc0", "", object(null, x.value)}, {"\xde\x00\x01", "\x01", object(x.value, whole("1"))}, {"\xdd\x00\x00\x00\x01\x91", "", list(list(x.value))}} {
			if x.told != (told{}) {
				c.want = api.Value{}
			}
			answers(t, c.ahead+x.s+c.behind, c.want, x.told.farther(len(c.ahead)))
		}
	}
}

// P23.3: till that is too deep.
func TestWithinToTheLimit(t *testing.T) {
	r := rule{2078}
	for range 30 {
		x := r.made(4, false)
		s, v := x.s, x.value
		for range 128 - value.Depth(v) {
			s, v = "\x91"+s, list(v)
			answers(t, s, v, told{})
		}
		sameAsReference(t, "\x91"+s)
		if _, err := packread.Read("\x91" + s); tells(err).code != limit {
			t.Errorf("Read(%s): %v", hexed("\x91"+s), err)
		}
	}
}
