package cborread_test

import (
	"encoding/binary"
	"math"
	"math/big"
	"slices"
	"strings"
	"testing"

	"crucible/api"
	"crucible/value"
)

// rule makes numbers that look like any, the same in each run.
type rule struct{ state uint64 }

func (r *rule) next() uint64 {
	r.state += 0x9e3779b97f4a7c15
	z := r.state
	z = (z ^ z>>30) * 0xbf58476d1ce4e5b9
	z = (z ^ z>>27) * 0x94d049bb133111eb
	return z ^ z>>31
}

func (r *rule) below(n int) int { return int(r.next() % uint64(n)) }

func pick[T any](r *rule, l ...T) T { return l[r.below(len(l))] }

func shuffle[T any](r *rule, l []T) {
	for i := range l {
		j := i + r.below(len(l)-i)
		l[i], l[j] = l[j], l[i]
	}
}

// heads are all heads of a major type and an argument, the shortest first.
func heads(major byte, arg uint64) (out []string) {
	first := major << 5
	if arg < 24 {
		out = append(out, string([]byte{first + byte(arg)}))
	}
	if arg < 1<<8 {
		out = append(out, string([]byte{first + 24, byte(arg)}))
	}
	if arg < 1<<16 {
		out = append(out, string(binary.BigEndian.AppendUint16([]byte{first + 25}, uint16(arg))))
	}
	if arg < 1<<32 {
		out = append(out, string(binary.BigEndian.AppendUint32([]byte{first + 26}, uint32(arg))))
	}
	return append(out, string(binary.BigEndian.AppendUint64([]byte{first + 27}, arg)))
}

// points are code points where something turns.
var points = []rune{0, 31, 'a', 'b', 'z', 127, 128, 233, 0x7ff, 0x800, 0xfff, 0x1000, 0xd7ff, 0xe000, 0xfb00, 0xffff, 0x10000, 0x1f600, 0x3ffff, 0x40000, 0xfffff, 0x100000, 0x10ffff}

func (r *rule) text() string {
	out := ""
	for range r.below(4) {
		out += string(pick(r, points...))
	}
	return out
}

func (r *rule) bytes(most int) string {
	out := make([]byte, r.below(most+1))
	for i := range out {
		out[i] = pick(r, 0, 1, 0x7f, 0x80, 0xff, byte(r.next()))
	}
	return string(out)
}

// integer makes one of any size, those about the edges of a width more often than others.
func (r *rule) integer() api.Value {
	n := new(big.Int).SetUint64(r.next() >> r.below(64))
	switch r.below(4) {
	case 0:
		n.SetUint64(uint64(r.below(30)))
	case 1:
		n.Lsh(big.NewInt(1), uint(pick(r, 8, 16, 24, 32, 53, 63, 64, 65, 72, 128, 200)))
		n.Add(n, big.NewInt(int64(r.below(5)-2)))
	case 2:
		n.SetBytes([]byte(r.bytes(20)))
	}
	if r.below(2) == 0 {
		n.Not(n)
	}
	return wholeOf(n)
}

// float makes one that is no whole number.
func (r *rule) float() api.Value {
	f := pick(r, 1.5, -0.1, 0.5, math.Inf(1), math.Inf(-1), math.NaN(), math.SmallestNonzeroFloat64, half(uint16(r.next())), float64(math.Float32frombits(uint32(r.next()))), math.Float64frombits(r.next()))
	v := numberOf(f)
	if v.Kind != api.VFloat {
		return float(0x3ff8000000000000)
	}
	return v
}

// plain makes a value that is no container.
func (r *rule) plain() api.Value {
	switch r.below(10) {
	case 0:
		return null
	case 1:
		return pick(r, no, yes)
	case 2:
		return simple(pick(r, 0, 19, 23, 32, 255, uint64(32+r.below(224))))
	case 3:
		return raw(r.bytes(6))
	case 4, 5:
		return text(r.text())
	case 6:
		return r.float()
	}
	return r.integer()
}

// value makes one with at most so many containers in one another.
func (r *rule) value(depth int) api.Value {
	if depth == 0 || r.below(3) == 0 {
		return r.plain()
	}
	switch r.below(5) {
	case 0:
		n := pick(r, 0, 1, 4, 23, 24, 32, 256, 55799, 1<<32, r.next()|1<<40)
		return tag(n, r.value(depth-1))
	case 1, 2:
		out := list()
		for range r.below(5) {
			out.Kids = append(out.Kids, r.value(depth-1))
		}
		return out
	}
	var kids []api.Value
	for range r.below(5) {
		if key := r.value(depth - 1); !stands(key, kids) {
			kids = append(kids, key, r.value(depth-1))
		}
	}
	return inOrder(kids)
}

// maker writes values down in any of their forms.
type maker struct {
	*rule
	strings.Builder
	// hurt: keys may stand twice; wrong is the place of the first that is read whole and does, -1 if none does.
	hurt  bool
	wrong int
}

func (m *maker) head(major byte, arg uint64) {
	all := heads(major, arg)
	if m.below(2) == 0 {
		m.WriteString(all[0])
		return
	}
	m.WriteString(pick(m.rule, all...))
}

// put writes a value down.
func (m *maker) put(v api.Value) {
	switch v.Kind {
	case api.VNull:
		m.WriteByte(0xf6)
	case api.VBool:
		m.WriteByte(0xf4 + byte(v.N))
	case api.VSimple:
		if v.N >= 32 {
			m.WriteByte(0xf8)
			m.WriteByte(byte(v.N))
			return
		}
		m.WriteByte(0xe0 + byte(v.N))
	case api.VInt:
		m.integer(bigOf(v))
	case api.VFloat:
		m.WriteString(pick(m.rule, m.floats(math.Float64frombits(v.Bits))...))
	case api.VBytes:
		m.string(2, v.Text)
	case api.VText:
		m.string(3, v.Text)
	case api.VTag:
		m.head(6, v.N)
		m.put(v.Kids[0])
	case api.VList:
		m.all(4, uint64(len(v.Kids)), func() {
			for _, kid := range v.Kids {
				m.put(kid)
			}
		})
	case api.VMap:
		m.pairs(v.Kids)
	}
}

// all writes the inside between a head with its number, or an open one and a break.
func (m *maker) all(major byte, n uint64, inside func()) {
	if m.below(3) > 0 {
		m.head(major, n)
		inside()
		return
	}
	m.WriteByte(major<<5 + 31)
	inside()
	m.WriteByte(0xff)
}

// string writes bytes or a text down, in one piece or in several.
func (m *maker) string(major byte, s string) {
	if m.below(3) > 0 {
		m.head(major, uint64(len(s)))
		m.WriteString(s)
		return
	}
	m.WriteByte(major<<5 + 31)
	for s != "" || m.below(3) == 0 {
		n := m.below(len(s) + 1)
		for major == 3 && n < len(s) && s[n]&0xc0 == 0x80 {
			n++
		}
		m.head(major, uint64(n))
		m.WriteString(s[:n])
		s = s[n:]
	}
	m.WriteByte(0xff)
}

// integer writes a whole number down: in a head, as a great number, or as a float that just is it.
func (m *maker) integer(n *big.Int) {
	negative := byte(0)
	size := new(big.Int).Set(n)
	if n.Sign() < 0 {
		negative = 1
		size.Not(n)
	}
	if f, _ := new(big.Float).SetInt(n).Float64(); m.below(4) == 0 && same(numberOf(f), wholeOf(n)) {
		m.WriteString(pick(m.rule, m.floats(f)...))
		return
	}
	if size.IsUint64() && m.below(4) > 0 {
		m.head(negative, size.Uint64())
		return
	}
	m.head(6, 2+uint64(negative))
	m.string(2, strings.Repeat("\x00", m.below(3))+string(size.Bytes()))
}

// halves are the patterns of 16 bits by the bits of their numbers.
var halves = func() map[uint64][]uint16 {
	out := map[uint64][]uint16{}
	for bits := range 65536 {
		f := math.Float64bits(half(uint16(bits)))
		out[f] = append(out[f], uint16(bits))
	}
	return out
}()

// floats are the items of major type 7 that are this number, of no number one of each width.
func (m *maker) floats(f float64) []string {
	if math.IsNaN(f) {
		sign, fraction := m.next()<<63, m.next()>>12|1
		return []string{
			string(binary.BigEndian.AppendUint16([]byte{0xf9}, uint16(sign>>48|0x7c00|fraction&1023))),
			string(binary.BigEndian.AppendUint32([]byte{0xfa}, uint32(sign>>32|0x7f800000|fraction&0x7fffff))),
			string(binary.BigEndian.AppendUint64([]byte{0xfb}, sign|0x7ff0000000000000|fraction)),
		}
	}
	if f == 0 {
		f = pick(m.rule, 0, math.Copysign(0, -1))
	}
	out := []string{string(binary.BigEndian.AppendUint64([]byte{0xfb}, math.Float64bits(f)))}
	if float64(float32(f)) == f {
		out = append(out, string(binary.BigEndian.AppendUint32([]byte{0xfa}, math.Float32bits(float32(f)))))
	}
	for _, bits := range halves[math.Float64bits(f)] {
		out = append(out, string(binary.BigEndian.AppendUint16([]byte{0xf9}, bits)))
	}
	return out
}

// pairs writes a map down, its pairs in any order.
func (m *maker) pairs(kids []api.Value) {
	var pairs [][]api.Value
	for pair := range slices.Chunk(kids, 2) {
		pairs = append(pairs, pair)
	}
	shuffle(m.rule, pairs)
	again := -1
	if m.hurt && len(pairs) > 0 && m.below(3) == 0 {
		pairs = append(pairs, []api.Value{pick(m.rule, pairs...)[0], m.value(1)})
		again = m.below(len(pairs)-1) + 1
		last := len(pairs) - 1
		pairs[again], pairs[last] = pairs[last], pairs[again]
	}
	m.all(5, uint64(len(pairs)), func() {
		var met []api.Value
		for _, pair := range pairs {
			from := m.Len()
			m.put(pair[0])
			if stands(pair[0], met) && m.wrong < 0 {
				m.wrong = from
			}
			met = append(met, pair[0], null)
			m.put(pair[1])
		}
	})
}

// form is one of the documents of a value.
func (r *rule) form(v api.Value) string {
	m := &maker{rule: r, wrong: -1}
	m.put(v)
	return m.String()
}

// made is a document with all that there is to know of it.
type made struct {
	s     string
	value api.Value
	told  told
}

// made makes a document; hurt: keys may stand twice in it.
func (r *rule) made(depth int, hurt bool) made {
	v := r.value(depth)
	m := &maker{rule: r, hurt: hurt, wrong: -1}
	m.put(v)
	if m.wrong >= 0 {
		return made{m.String(), api.Value{}, told{input, m.wrong}}
	}
	return made{m.String(), v, told{}}
}

// turns are bytes at which something turns.
var turns = of("00 01 17 18 19 1a 1b 1c 1f 20 37 38 3f 40 41 42 57 58 5b 5c 5f 60 61 62 63 64 78 7f 80 81 82 98 9f a0 a1 a2 b8 bf c1 c2 c3 d8 d9 e0 ed ef f0 f3 f4 f5 f6 f7 f8 f9 fa fb fc ff")

func (r *rule) wild() byte {
	if r.below(5) == 0 {
		return byte(r.next())
	}
	return turns[r.below(len(turns))]
}

// anyString makes documents, such in which keys stand twice, such with bytes left out, put in or changed, beginnings of them, and several in a row.
func (r *rule) anyString(depth int) string {
	s := []byte(r.made(depth, r.below(2) == 0).s)
	for range max(0, r.below(5)-2) {
		at := r.below(len(s) + 1)
		switch r.below(5) {
		case 0:
			s = slices.Insert(s, at, r.wild())
		case 1:
			s = slices.Delete(s, at, min(at+1, len(s)))
		case 2:
			if at < len(s) {
				s[at] = r.wild()
			}
		case 3:
			s = s[:at]
		case 4:
			s = append(s, r.made(1, true).s...)
		}
	}
	return string(s)
}

// The samples themselves, held against the reference: what is made is what the document asks for, of each sort enough.
func TestSamples(t *testing.T) {
	r := rule{2001}
	right, wrong := 0, 0
	kinds := map[api.Kind]int{}
	for i := range 20000 {
		x := r.made(4, i%2 == 0)
		if v, e := wants(x.s); !same(v, x.value) || e != x.told {
			t.Fatalf("made is %s, %s, %v; the reference has %s, %v", hexed(x.s), show(x.value), x.told, show(v), e)
		}
		if x.told != (told{}) {
			wrong++
			continue
		}
		right++
		kinds[x.value.Kind]++
		if err := value.Check(x.value); err != nil {
			t.Fatalf("made is %s: %v", show(x.value), err)
		}
	}
	if right < 10000 || wrong < 1000 {
		t.Errorf("%d right, %d wrong", right, wrong)
	}
	for kind := api.VNull; kind < api.VExt; kind++ {
		if kinds[kind] < 200 {
			t.Errorf("of the kind %d there are %d", kind, kinds[kind])
		}
	}
}
