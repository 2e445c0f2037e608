package diag_test

import (
	"fmt"
	"math"
	"math/big"
	"slices"
	"strconv"
	"strings"
	"testing"
	"unicode/utf16"

	"crucible/api"
	"crucible/value"
)

// rule makes numbers that look like any, the same in each run.
type rule struct{ state uint64 }

func (r *rule) next() uint64 {
	r.state += 0x9e3779b97f4a7c15
	z := r.state
	z = (z ^ z>>30) * 0xbf58476d1ce4e5b9
	z = (z ^ z>>27) * 0x94d049bb133111eb
	return z ^ z>>31
}

func (r *rule) below(n int) int { return int(r.next() % uint64(n)) }

func pick[T any](r *rule, l ...T) T { return l[r.below(len(l))] }

func shuffle[T any](r *rule, l []T) {
	for i := range l {
		j := i + r.below(len(l)-i)
		l[i], l[j] = l[j], l[i]
	}
}

// points are code points where something turns.
var points = []rune{0, 8, 9, 10, 11, 12, 13, 31, 32, '"', '\\', '/', 'a', 'b', 'z', '~', 127, 128, 233, 0x7ff, 0x800, 0xfff, 0x1000, 0x2028, 0xd7ff, 0xe000, 0xfb00, 0xfeff, 0xfffd, 0xffff, 0x10000, 0x1f600, 0x3ffff, 0x40000, 0xfffff, 0x100000, 0x10ffff}

func (r *rule) text() string {
	out := ""
	for range r.below(4) {
		out += string(pick(r, points...))
	}
	return out
}

func (r *rule) bytes(most int) string {
	out := make([]byte, r.below(most+1))
	for i := range out {
		out[i] = pick(r, 0, 1, 0x0a, 0x7f, 0x80, 0xa0, 0xff, byte(r.next()))
	}
	return string(out)
}

// integer makes one of any size, those about the edges of a width more often than others.
func (r *rule) integer() api.Value {
	n := new(big.Int).SetUint64(r.next() >> r.below(64))
	switch r.below(5) {
	case 0:
		n.SetUint64(uint64(r.below(30)))
	case 1:
		n.Lsh(big.NewInt(1), uint(pick(r, 8, 16, 24, 32, 53, 63, 64, 65, 72, 128, 200, 1023, 1024)))
		n.Add(n, big.NewInt(int64(r.below(5)-2)))
	case 2:
		n.SetBytes([]byte(r.bytes(20)))
	case 3:
		if r.below(8) == 0 {
			n.Lsh(big.NewInt(1), uint(4094+r.below(5)))
			n.Add(n, big.NewInt(int64(r.below(5)-2)))
		}
	}
	if r.below(2) == 0 {
		n.Not(n)
	}
	return wholeOf(n)
}

// float makes one that is no whole number.
func (r *rule) float() api.Value {
	f := pick(r, 1.5, -0.1, 0.5, 1e-6, 1e-7, -1.25e-7, math.Inf(1), math.Inf(-1), math.NaN(), math.SmallestNonzeroFloat64, math.Float64frombits(1<<52), 4503599627370495.5, float64(int32(r.next()))/64, float64(math.Float32frombits(uint32(r.next()))), math.Float64frombits(r.next()))
	v := numberOf(f)
	if v.Kind != api.VFloat {
		return float(half3)
	}
	return v
}

// plain makes a value that is no container.
func (r *rule) plain() api.Value {
	switch r.below(11) {
	case 0:
		return null
	case 1:
		return pick(r, no, yes)
	case 2:
		return simple(pick(r, 0, 9, 10, 19, 23, 23, 32, 39, 99, 100, 199, 200, 255, uint64(32+r.below(224))))
	case 3:
		return raw(r.bytes(6))
	case 4, 5:
		return text(r.text())
	case 6, 7:
		return r.float()
	case 8:
		return ext(pick(r, 0, -1, 1, 9, -9, 10, 12, 99, 127, -128, -127, int8(r.next())), r.bytes(4))
	}
	return r.integer()
}

// value makes one with at most so many containers in one another.
func (r *rule) value(depth int) api.Value {
	if depth == 0 || r.below(3) == 0 {
		return r.plain()
	}
	switch r.below(5) {
	case 0:
		return tag(pick(r, 0, 1, 4, 9, 10, 20, 23, 24, 32, 256, 55799, 1<<32, 1<<63, 1<<64-1, r.next()|1<<40), r.value(depth-1))
	case 1, 2:
		out := list()
		for range r.below(5) {
			out.Kids = append(out.Kids, r.value(depth-1))
		}
		return out
	}
	var kids []api.Value
	for range r.below(5) {
		if key := r.value(depth - 1); !stands(key, kids) {
			kids = append(kids, key, r.value(depth-1))
		}
	}
	return inOrder(kids)
}

// maker writes values down in any of their forms.
type maker struct {
	*rule
	strings.Builder
	// hurt: keys may stand twice; wrong is the place of the first that is read whole and does, -1 if none does.
	hurt  bool
	wrong int
}

// gap is what may stand between.
func (r *rule) gap() string {
	out := ""
	for r.below(4) == 0 {
		out += pick(r, " ", "\t", "\n", "\r", "  ", "//", "/one/", "/\"/", "/]\n}/", "/\xff/", "/ \x00 é/", "/1(/")
	}
	return out
}

func (m *maker) gap() { m.WriteString(m.rule.gap()) }

// put writes a value down.
func (m *maker) put(v api.Value) {
	switch v.Kind {
	case api.VNull, api.VBool:
		m.WriteString(shown(v))
	case api.VSimple:
		m.WriteString(pick(m.rule, shown(v), fmt.Sprintf("simple(%d)", v.N)))
	case api.VInt:
		m.WriteString(pick(m.rule, m.integers(bigOf(v))...))
	case api.VFloat:
		m.WriteString(pick(m.rule, m.floats(math.Float64frombits(v.Bits))...))
	case api.VBytes:
		m.WriteString(m.hex(v.Text))
	case api.VText:
		m.WriteString(m.literal(v.Text))
	case api.VTag:
		m.WriteString(strconv.FormatUint(v.N, 10) + "(")
		m.gap()
		m.put(v.Kids[0])
		m.gap()
		m.WriteString(")")
	case api.VList:
		m.parts("[]", len(v.Kids), func(i int) { m.put(v.Kids[i]) })
	case api.VMap:
		m.pairs(v.Kids)
	case api.VExt:
		fmt.Fprintf(m, "ext(%d%s,%s%s%s)", v.Ext, m.rule.gap(), m.rule.gap(), m.hex(v.Text), m.rule.gap())
	}
}

func (m *maker) parts(brackets string, n int, part func(i int)) {
	m.WriteString(brackets[:1])
	m.gap()
	for i := range n {
		if i > 0 {
			m.WriteString(",")
		}
		m.gap()
		part(i)
		m.gap()
	}
	m.WriteString(brackets[1:])
}

// pairs writes a map down, its pairs in any order.
func (m *maker) pairs(kids []api.Value) {
	pairs := slices.Collect(slices.Chunk(kids, 2))
	shuffle(m.rule, pairs)
	if m.hurt && len(pairs) > 0 && m.below(3) == 0 {
		again := m.below(len(pairs)) + 1
		pairs = slices.Insert(pairs, again, []api.Value{pairs[m.below(again)][0], m.value(1)})
	}
	var met []api.Value
	m.parts("{}", len(pairs), func(i int) {
		from := m.Len()
		m.put(pairs[i][0])
		if stands(pairs[i][0], met) && m.wrong < 0 {
			m.wrong = from
		}
		met = append(met, pairs[i]...)
		m.gap()
		m.WriteString(":")
		m.gap()
		m.put(pairs[i][1])
	})
}

// cased writes each letter among the digits in either case.
func (r *rule) cased(digits string) string {
	out := []byte(digits)
	for i := range out {
		if r.below(2) == 0 {
			out[i] = strings.ToUpper(digits[i : i+1])[0]
		}
	}
	return string(out)
}

func (r *rule) hex(s string) string { return "h'" + r.cased(fmt.Sprintf("%x", s)) + "'" }

// integers are forms of a whole number: in base 10 and 16, and as a rounded one where it just is one.
func (r *rule) integers(n *big.Int) []string {
	size, sign := new(big.Int).Abs(n).String(), ""
	if n.Sign() < 0 || n.Sign() == 0 && r.below(2) == 0 {
		sign = "-"
	}
	out := []string{sign + size, sign + "0x" + strings.Repeat("0", r.below(4)) + r.cased(new(big.Int).Abs(n).Text(16))}
	if f, _ := new(big.Float).SetInt(n).Float64(); same(numberOf(f), wholeOf(n)) {
		// Noughts at the end may go, as the power says them.
		bare := strings.TrimRight(size[1:], "0")
		out = append(out, sign+size+".0", sign+size+"e0", sign+size+"E+00", fmt.Sprintf("%s%s.%s0e%d", sign, size[:1], bare, len(size)-1))
		if n.Sign() != 0 {
			out = append(out, sign+size+"0e-1", sign+strconv.FormatFloat(math.Abs(f), 'e', -1, 64))
		}
	}
	return out
}

// floats are forms of a float that is no whole number.
func (r *rule) floats(f float64) []string {
	switch {
	case math.IsNaN(f):
		return []string{"NaN"}
	case math.IsInf(f, 0):
		out := []string{"Infinity", "1e309", "1.7976931348623159e308", "9E+999999999999999999999", strings.Repeat("9", 309) + ".0"}
		if f < 0 {
			for i := range out {
				out[i] = "-" + out[i]
			}
		}
		return out
	}
	exact := new(big.Float).SetFloat64(f).Text('f', 1074)
	return []string{strconv.FormatFloat(f, 'e', -1, 64), strconv.FormatFloat(f, 'E', -1, 64), strconv.FormatFloat(f, 'f', -1, 64), strconv.FormatFloat(f, 'e', 16, 64), strconv.FormatFloat(f, 'e', 40, 64), strings.TrimRight(exact, "0"), exact, strings.TrimRight(exact, "0") + "e-0"}
}

// literal makes one of the literals of a text.
func (r *rule) literal(s string) string {
	out := `"`
	for _, c := range s {
		units := ""
		for _, unit := range utf16.Encode([]rune{c}) {
			units += `\u` + r.cased(fmt.Sprintf("%04x", unit))
		}
		ways := []string{units}
		if c >= 32 && c != '"' && c != '\\' {
			ways = append(ways, string(c), string(c))
		}
		if at := slices.Index([]rune{'"', '\\', '/', 8, 12, 10, 13, 9}, c); at >= 0 {
			ways = append(ways, `\`+`"\/bfnrt`[at:at+1])
		}
		out += pick(r, ways...)
	}
	return out + `"`
}

// form is one of the texts that are read as a value.
func (r *rule) form(v api.Value) string {
	m := &maker{rule: r, wrong: -1}
	m.gap()
	m.put(v)
	m.gap()
	return m.String()
}

// written is a text with all that there is to know of it.
type written struct {
	s     string
	value api.Value
	told  told
}

// written makes a text; hurt: keys may stand twice in it.
func (r *rule) written(depth int, hurt bool) written {
	v := r.value(depth)
	m := &maker{rule: r, hurt: hurt, wrong: -1}
	m.gap()
	m.put(v)
	m.gap()
	if m.wrong >= 0 {
		return written{m.String(), none, told{code: input, at: m.wrong}}
	}
	return written{m.String(), v, told{}}
}

// turns are bytes at which something turns.
const turns = "\x00\x08\x09\x0a\x0b\x0c\x0d\x0e\x1f !\"#'()*+,-./01234567899:;@ABCDEFGINX[\\]^`abcdefghilnprstuvxy{|}~\x7f\x80\x8f\x9f\xa0\xbf\xc2\xc3\xe0\xed\xef\xf0\xf4\xff"

func (r *rule) wild() byte {
	if r.below(6) == 0 {
		return byte(r.next())
	}
	return turns[r.below(len(turns))]
}

// anyString makes texts, such in which keys stand twice, such with bytes left out, put in or changed, beginnings of them, and several in a row.
func (r *rule) anyString(depth int) string {
	s := []byte(r.written(depth, r.below(2) == 0).s)
	for range max(0, r.below(5)-2) {
		at := r.below(len(s) + 1)
		switch r.below(6) {
		case 0:
			s = slices.Insert(s, at, r.wild())
		case 1:
			s = slices.Delete(s, at, min(at+1, len(s)))
		case 2:
			if at < len(s) {
				s[at] = r.wild()
			}
		case 3:
			s = s[:at]
		case 4:
			s = append(s, r.written(1, true).s...)
		case 5:
			s = s[:min(at, 9)]
			for range r.below(6) {
				s = append(s, r.wild())
			}
		}
	}
	return string(s)
}

// The samples themselves, held against the reference: what is written is what the document asks for, of each sort enough.
func TestSamples(t *testing.T) {
	r := rule{2201}
	right, wrong := 0, 0
	kinds := map[api.Kind]int{}
	for i := range 4000 {
		x := r.written(3, i%2 == 0)
		if v, e := wants(x.s); !same(v, x.value) || e != x.told {
			t.Fatalf("written is %q, %s, %v; the reference has %s, %v", x.s, dump(x.value), x.told, dump(v), e)
		}
		if x.told != (told{}) {
			wrong++
			continue
		}
		right++
		kinds[x.value.Kind]++
		if err := value.Check(x.value); err != nil {
			t.Fatalf("written is %s: %v", dump(x.value), err)
		}
	}
	if right < 2000 || wrong < 200 {
		t.Errorf("%d right, %d wrong", right, wrong)
	}
	for kind := api.VNull; kind <= api.VExt; kind++ {
		if kinds[kind] < 40 {
			t.Errorf("of the kind %d there are %d", kind, kinds[kind])
		}
	}
	codes := map[int]int{}
	for range 3000 {
		_, e := wants(r.anyString(3))
		codes[e.code]++
	}
	if codes[0] < 600 || codes[input] < 600 {
		t.Errorf("%v", codes)
	}
}
