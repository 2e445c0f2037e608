package jsonread_test

import (
	"fmt"
	"slices"
	"strings"
	"testing"

	"crucible/api"
)

// rule makes numbers that look like any, the same in each run.
type rule struct{ state uint64 }

func (r *rule) next() uint64 {
	r.state += 0x9e3779b97f4a7c15
	z := r.state
	z = (z ^ z>>30) * 0xbf58476d1ce4e5b9
	z = (z ^ z>>27) * 0x94d049bb133111eb
	return z ^ z>>31
}

func (r *rule) below(n int) int { return int(r.next() % uint64(n)) }

func pick[T any](r *rule, l ...T) T { return l[r.below(len(l))] }

func (r *rule) blanks() string {
	out := ""
	for r.below(4) == 0 {
		out += pick(r, " ", "\t", "\n", "\r")
	}
	return out
}

// maker writes a JSON text down together with its value, so that what it must be read as is known before it is read.
type maker struct {
	*rule
	strings.Builder
	// hurt: keys may stand twice, and numbers be too great; wrong are the places where they are.
	hurt  bool
	wrong []int
	// depth is the number of brackets around the innermost part.
	depth int
}

// numbers are some, with their values.
func numbers() []struct {
	s     string
	value api.Value
} {
	return []struct {
		s     string
		value api.Value
	}{
		{"0", whole("0")}, {"-0", whole("0")}, {"0.00e5", whole("0")}, {"1", whole("1")}, {"-1.0", whole("-1")}, {"10e-1", whole("1")}, {"2.50", float(0x4004000000000000)}, {"-15E-1", float(0xbff8000000000000)},
		{"0.1", float(0x3fb999999999999a)}, {"1e+2", whole("100")}, {"9007199254740993", whole("9007199254740992")}, {"4294967296", whole("4294967296")}, {"-18446744073709551615", whole("-18446744073709551616")},
		{"1e21", whole("1000000000000000000000")}, {"5e-324", float(1)}, {"-1e-400", whole("0")},
	}
}

func (m *maker) number() api.Value {
	if m.hurt && m.below(8) == 0 {
		m.wrong = append(m.wrong, m.Len())
		m.WriteString(pick(m.rule, "1e999", "-1e309", "1.7976931348623159e308", "1"+strings.Repeat("0", 309), "0.1E+310"))
		return null
	}
	n := pick(m.rule, numbers()...)
	m.WriteString(n.s)
	return n.value
}

// letters are what has a letter behind a backslash, in turn with what it says.
const letters = "\"\"\\\\//b\bf\fn\nr\rt\t"

// point writes a code point down in any of the ways there are.
func (m *maker) point(c rune) {
	hex := pick(m.rule, `\u%04x`, `\u%04X`)
	letter := strings.IndexRune(letters, c) | 1
	switch {
	case letter > 0 && letter < len(letters) && rune(letters[letter]) == c && m.below(2) == 0:
		m.WriteString(`\` + letters[letter-1:letter])
	case c >= 32 && c != '"' && c != '\\' && m.below(2) == 0:
		m.WriteRune(c)
	case c >= 65536:
		c -= 65536
		fmt.Fprintf(m, hex+hex, 0xd800+c>>10, 0xdc00+c&0x3ff)
	default:
		fmt.Fprintf(m, hex, c)
	}
}

func (m *maker) literal(s string) {
	m.WriteByte('"')
	for _, c := range s {
		m.point(c)
	}
	m.WriteByte('"')
}

func (m *maker) blank() { m.WriteString(m.blanks()) }

// points are code points where something turns.
var points = []rune{0, 8, 9, 10, 11, 12, 13, 31, 32, '"', '/', '0', 'A', '[', '\\', ']', 'a', 'b', 'u', '{', '}', 127, 128, 233, 0x7ff, 0x800, 0xd7ff, 0xe000, 0xfb00, 0xfffd, 0xffff, 0x10000, 0x1f600, 0x10ffff}

func (r *rule) text() string {
	out := ""
	for range r.below(4) {
		out += string(pick(r, points...))
	}
	return out
}

func (m *maker) key(pairs [][2]api.Value) string {
	key := m.text()
	if m.hurt && len(pairs) > 0 && m.below(6) == 0 {
		key = pick(m.rule, pairs...)[0].Text
	}
	for stands(key, pairs) {
		if m.hurt {
			m.wrong = append(m.wrong, m.Len())
			break
		}
		key += string(pick(m.rule, points...))
	}
	m.literal(key)
	return key
}

func (m *maker) list(around, more int) api.Value {
	out := list()
	m.WriteByte('[')
	m.blank()
	for i := range m.below(5) {
		if i > 0 {
			m.WriteByte(',')
		}
		out.Kids = append(out.Kids, m.value(around+1, more-1))
	}
	m.WriteByte(']')
	return out
}

func (m *maker) object(around, more int) api.Value {
	var pairs [][2]api.Value
	m.WriteByte('{')
	m.blank()
	for i := range m.below(5) {
		if i > 0 {
			m.WriteByte(',')
		}
		m.blank()
		key := m.key(pairs)
		m.blank()
		m.WriteByte(':')
		pairs = append(pairs, [2]api.Value{text(key), m.value(around+1, more-1)})
	}
	m.WriteByte('}')
	return inOrder(pairs)
}

// value writes one with blanks around it, within so many brackets and with at most so many more in one another.
func (m *maker) value(around, more int) api.Value {
	m.blank()
	defer m.blank()
	m.depth = max(m.depth, around)
	if more > 0 && m.below(3) > 0 {
		m.depth = max(m.depth, around+1)
		if m.below(2) == 0 {
			return m.list(around, more)
		}
		return m.object(around, more)
	}
	switch m.below(6) {
	case 0:
		m.WriteString("null")
		return null
	case 1:
		m.WriteString("true")
		return yes
	case 2:
		m.WriteString("false")
		return no
	case 3:
		s := m.text()
		m.literal(s)
		return text(s)
	}
	return m.number()
}

// made is a JSON text with all that there is to know of it; wrong is -1, if nothing is.
type made struct {
	s     string
	value api.Value
	wrong int
	depth int
}

func (r *rule) made(depth int, hurt bool) made {
	m := &maker{rule: r, hurt: hurt}
	v := m.value(0, depth)
	out := made{m.String(), v, -1, m.depth}
	if len(m.wrong) > 0 {
		out.value, out.wrong = api.Value{}, slices.Min(m.wrong)
	}
	return out
}

func (x made) told() told {
	if x.wrong < 0 {
		return told{}
	}
	return told{input, x.wrong}
}

// turns are bytes at which something turns in a JSON text.
const turns = "\x00\x08\x09\x0a\x0b\x0d\x1f !\"#+,-./01789:@ABDEFG[\\]^abcdefnrtu{|}\x7f\x80\xbf\xc2\xe0\xed\xef\xf0\xf4\xff"

func (r *rule) wild() byte {
	if r.below(5) == 0 {
		return byte(r.next())
	}
	return turns[r.below(len(turns))]
}

// anyString makes JSON texts, such in which keys stand twice and numbers are too great, and such with bytes left out, put in or changed, pieces of them, and several in a row.
func (r *rule) anyString(depth int) string {
	s := []byte(r.made(depth, r.below(2) == 0).s)
	for range max(0, r.below(5)-2) {
		at := r.below(len(s) + 1)
		switch r.below(5) {
		case 0:
			s = slices.Insert(s, at, r.wild())
		case 1:
			s = slices.Delete(s, at, min(at+1, len(s)))
		case 2:
			if at < len(s) {
				s[at] = r.wild()
			}
		case 3:
			s = s[:at]
		case 4:
			s = append(s, r.made(1, true).s...)
		}
	}
	return string(s)
}

// The samples themselves, held against the reference: what is made is what the document asks for, of each sort enough.
func TestSamples(t *testing.T) {
	r := rule{1}
	right, wrong := 0, 0
	for i := range 20000 {
		x := r.made(4, i%2 == 0)
		v, e := wants(x.s)
		if _, depth := scans(x.s); !same(v, x.value) || e != x.told() || depth != x.depth {
			t.Fatalf("made is %q, %s, %d, %d; the reference has %s, %v, %d", x.s, show(x.value), x.wrong, x.depth, show(v), e, depth)
		}
		if x.wrong < 0 {
			right++
		} else {
			wrong++
		}
	}
	if right < 4000 || wrong < 2000 {
		t.Errorf("%d right, %d wrong", right, wrong)
	}
}
