package packread_test

import (
	"encoding/binary"
	"math"
	"math/big"
	"slices"
	"strings"
	"testing"

	"crucible/api"
	"crucible/value"
)

// rule makes numbers that look like any, the same in each run.
type rule struct{ state uint64 }

func (r *rule) next() uint64 {
	r.state += 0x9e3779b97f4a7c15
	z := r.state
	z = (z ^ z>>30) * 0xbf58476d1ce4e5b9
	z = (z ^ z>>27) * 0x94d049bb133111eb
	return z ^ z>>31
}

func (r *rule) below(n int) int { return int(r.next() % uint64(n)) }

func pick[T any](r *rule, l ...T) T { return l[r.below(len(l))] }

func shuffle[T any](r *rule, l []T) {
	for i := range l {
		j := i + r.below(len(l)-i)
		l[i], l[j] = l[j], l[i]
	}
}

// inBytes is a number in so many bytes behind a first one.
func inBytes(first byte, wide int, n uint64) string {
	all := binary.BigEndian.AppendUint64(nil, n)
	return string([]byte{first}) + string(all[8-wide:])
}

// heads are all heads, but for the type of an extension, of a kind with so many bytes, items or pairs, the shortest first.
func heads(kind api.Kind, n int) (out []string) {
	wide := func(first byte, widths ...int) {
		for i, w := range widths {
			if uint64(n) < 1<<(8*w) {
				out = append(out, inBytes(first+byte(i), w, uint64(n)))
			}
		}
	}
	switch kind {
	case api.VText:
		if n < 32 {
			out = append(out, string([]byte{0xa0 + byte(n)}))
		}
		wide(0xd9, 1, 2, 4)
	case api.VBytes:
		wide(0xc4, 1, 2, 4)
	case api.VList:
		if n < 16 {
			out = append(out, string([]byte{0x90 + byte(n)}))
		}
		wide(0xdc, 2, 4)
	case api.VMap:
		if n < 16 {
			out = append(out, string([]byte{0x80 + byte(n)}))
		}
		wide(0xde, 2, 4)
	case api.VExt:
		if first, ok := map[int]byte{1: 0xd4, 2: 0xd5, 4: 0xd6, 8: 0xd7, 16: 0xd8}[n]; ok {
			out = append(out, string([]byte{first}))
		}
		wide(0xc7, 1, 2, 4)
	}
	return out
}

// points are code points where something turns.
var points = []rune{0, 31, 'a', 'b', 'z', 127, 128, 233, 0x7ff, 0x800, 0xfff, 0x1000, 0xd7ff, 0xe000, 0xfb00, 0xffff, 0x10000, 0x1f600, 0x3ffff, 0x40000, 0xfffff, 0x100000, 0x10ffff}

func (r *rule) text() string {
	out := ""
	for range r.below(4) {
		out += string(pick(r, points...))
	}
	return out
}

func (r *rule) bytes(most int) string {
	out := make([]byte, r.below(most+1))
	for i := range out {
		out[i] = pick(r, 0, 1, 0x7f, 0x80, 0xff, byte(r.next()))
	}
	return string(out)
}

// integer makes one that MessagePack has, those about the edges of a width more often than others, some of them only as floats.
func (r *rule) integer() api.Value {
	n := new(big.Int).SetUint64(r.next() >> r.below(64))
	switch r.below(5) {
	case 0:
		n.SetUint64(uint64(r.below(140)))
	case 1:
		n.Lsh(big.NewInt(1), uint(pick(r, 5, 7, 8, 15, 16, 24, 31, 32, 53, 63)))
		n.Add(n, big.NewInt(int64(r.below(5)-2)))
	case 2:
		n = bigOf(numberOf(math.Ldexp(float64(r.next()>>r.below(64)), r.below(960))))
		if r.below(2) == 0 {
			n.Neg(n)
		}
		return wholeOf(n)
	}
	if r.below(2) == 0 && n.BitLen() < 64 {
		n.Not(n)
	}
	return wholeOf(n)
}

// float makes one that is no whole number.
func (r *rule) float() api.Value {
	f := pick(r, 1.5, -0.1, 0.5, math.Inf(1), math.Inf(-1), math.NaN(), math.SmallestNonzeroFloat64, float64(math.Float32frombits(uint32(r.next()))), math.Float64frombits(r.next()))
	v := numberOf(f)
	if v.Kind != api.VFloat {
		return float(0x3ff8000000000000)
	}
	return v
}

// plain makes a value that is no container.
func (r *rule) plain() api.Value {
	switch r.below(10) {
	case 0:
		return null
	case 1:
		return pick(r, no, yes)
	case 2:
		n := pick(r, 0, 1, 2, 3, 4, 8, 16, r.below(20))
		return extension(pick(r, 0, 1, -1, 5, 127, -128, int8(r.next())), strings.Repeat(pick(r, "\x00", "a", "\xff"), n))
	case 3:
		return raw(r.bytes(6))
	case 4, 5:
		return text(r.text())
	case 6:
		return r.float()
	}
	return r.integer()
}

// value makes one with at most so many containers in one another.
func (r *rule) value(depth int) api.Value {
	if depth == 0 || r.below(3) == 0 {
		return r.plain()
	}
	if r.below(2) == 0 {
		out := list()
		for range r.below(5) {
			out.Kids = append(out.Kids, r.value(depth-1))
		}
		return out
	}
	var kids []api.Value
	for range r.below(5) {
		if key := r.value(depth - 1); !stands(key, kids) {
			kids = append(kids, key, r.value(depth-1))
		}
	}
	return inOrder(kids)
}

// maker writes values down in any of their forms.
type maker struct {
	*rule
	strings.Builder
	// hurt: keys may stand twice; wrong is the place of the first that is read whole and does, -1 if none does.
	hurt  bool
	wrong int
}

func (m *maker) head(kind api.Kind, n int) {
	all := heads(kind, n)
	if m.below(2) == 0 {
		m.WriteString(all[0])
		return
	}
	m.WriteString(pick(m.rule, all...))
}

// put writes a value down.
func (m *maker) put(v api.Value) {
	switch v.Kind {
	case api.VNull:
		m.WriteByte(0xc0)
	case api.VBool:
		m.WriteByte(0xc2 + byte(v.N))
	case api.VInt:
		m.WriteString(pick(m.rule, m.integers(bigOf(v))...))
	case api.VFloat:
		m.WriteString(pick(m.rule, m.floats(math.Float64frombits(v.Bits))...))
	case api.VText, api.VBytes:
		m.head(v.Kind, len(v.Text))
		m.WriteString(v.Text)
	case api.VExt:
		m.head(v.Kind, len(v.Text))
		m.WriteByte(byte(v.Ext))
		m.WriteString(v.Text)
	case api.VList:
		m.head(v.Kind, len(v.Kids))
		for _, kid := range v.Kids {
			m.put(kid)
		}
	case api.VMap:
		m.pairs(v.Kids)
	}
}

// integers are the items that are this whole number: of each family that has it, and floats that just are it.
func (m *maker) integers(n *big.Int) (out []string) {
	if n.IsInt64() {
		x := n.Int64()
		if x >= -32 && x <= 127 {
			out = append(out, string([]byte{byte(x)}))
		}
		for i, wide := range []int{1, 2, 4, 8} {
			if x>>(8*wide-1) == 0 || x>>(8*wide-1) == -1 {
				out = append(out, inBytes(0xd0+byte(i), wide, uint64(x)))
			}
		}
	}
	if n.IsUint64() {
		for i, wide := range []int{1, 2, 4, 8} {
			if n.BitLen() <= 8*wide {
				out = append(out, inBytes(0xcc+byte(i), wide, n.Uint64()))
			}
		}
	}
	if f, _ := new(big.Float).SetInt(n).Float64(); !math.IsInf(f, 0) && same(numberOf(f), wholeOf(n)) {
		out = append(out, m.floats(f)...)
	}
	return out
}

// floats are the items that are this number as a float, of no number one of each width.
func (m *maker) floats(f float64) []string {
	if math.IsNaN(f) {
		sign, fraction := m.next()<<63, m.next()>>12|1
		return []string{inBytes(0xca, 4, sign>>32|0x7f800000|fraction&0x7fffff), inBytes(0xcb, 8, sign|0x7ff0000000000000|fraction)}
	}
	if f == 0 {
		f = pick(m.rule, 0, math.Copysign(0, -1))
	}
	out := []string{inBytes(0xcb, 8, math.Float64bits(f))}
	if float64(float32(f)) == f {
		out = append(out, inBytes(0xca, 4, uint64(math.Float32bits(float32(f)))))
	}
	return out
}

// pairs writes a map down, its pairs in any order.
func (m *maker) pairs(kids []api.Value) {
	var pairs [][]api.Value
	for pair := range slices.Chunk(kids, 2) {
		pairs = append(pairs, pair)
	}
	shuffle(m.rule, pairs)
	if m.hurt && len(pairs) > 0 && m.below(3) == 0 {
		pairs = append(pairs, []api.Value{pick(m.rule, pairs...)[0], m.value(1)})
		again := m.below(len(pairs)-1) + 1
		last := len(pairs) - 1
		pairs[again], pairs[last] = pairs[last], pairs[again]
	}
	m.head(api.VMap, len(pairs))
	var met []api.Value
	for _, pair := range pairs {
		from := m.Len()
		m.put(pair[0])
		if stands(pair[0], met) && m.wrong < 0 {
			m.wrong = from
		}
		met = append(met, pair[0], null)
		m.put(pair[1])
	}
}

// form is one of the documents of a value.
func (r *rule) form(v api.Value) string {
	m := &maker{rule: r, wrong: -1}
	m.put(v)
	return m.String()
}

// made is a document with all that there is to know of it.
type made struct {
	s     string
	value api.Value
	told  told
}

// made makes a document; hurt: keys may stand twice in it.
func (r *rule) made(depth int, hurt bool) made {
	v := r.value(depth)
	m := &maker{rule: r, hurt: hurt, wrong: -1}
	m.put(v)
	if m.wrong >= 0 {
		return made{m.String(), api.Value{}, told{input, m.wrong}}
	}
	return made{m.String(), v, told{}}
}

// turns are bytes at which something turns.
var turns = of("00 01 02 17 20 28 3f 41 61 7f 80 81 82 83 8f 90 91 92 93 9f a0 a1 a2 a3 a4 bf c0 c1 c2 c3 c4 c5 c6 c7 c8 c9 ca cb cc cd ce cf d0 d1 d2 d3 d4 d5 d6 d7 d8 d9 da db dc dd de df e0 e2 ed ef f0 f3 f4 f5 f8 ff")

func (r *rule) wild() byte {
	if r.below(5) == 0 {
		return byte(r.next())
	}
	return turns[r.below(len(turns))]
}

// anyString makes documents, such in which keys stand twice, such with bytes left out, put in or changed, beginnings of them, and several in a row.
func (r *rule) anyString(depth int) string {
	s := []byte(r.made(depth, r.below(2) == 0).s)
	for range max(0, r.below(5)-2) {
		at := r.below(len(s) + 1)
		switch r.below(5) {
		case 0:
			s = slices.Insert(s, at, r.wild())
		case 1:
			s = slices.Delete(s, at, min(at+1, len(s)))
		case 2:
			if at < len(s) {
				s[at] = r.wild()
			}
		case 3:
			s = s[:at]
		case 4:
			s = append(s, r.made(1, true).s...)
		}
	}
	return string(s)
}

// The samples themselves, held against the reference: what is made is what the document asks for, of each sort enough.
func TestSamples(t *testing.T) {
	r := rule{2301}
	right, wrong := 0, 0
	kinds := map[api.Kind]int{}
	var firsts [256]int
	for i := range 20000 {
		x := r.made(4, i%2 == 0)
		if v, e := wants(x.s); !same(v, x.value) || e != x.told {
			t.Fatalf("made is %s, %s, %v; the reference has %s, %v", hexed(x.s), show(x.value), x.told, show(v), e)
		}
		firsts[x.s[0]]++
		if x.told != (told{}) {
			wrong++
			continue
		}
		right++
		kinds[x.value.Kind]++
		if err := value.Check(x.value); err != nil {
			t.Fatalf("made is %s: %v", show(x.value), err)
		}
	}
	if right < 10000 || wrong < 1000 {
		t.Errorf("%d right, %d wrong", right, wrong)
	}
	for _, kind := range []api.Kind{api.VNull, api.VBool, api.VInt, api.VFloat, api.VText, api.VBytes, api.VList, api.VMap, api.VExt} {
		if kinds[kind] < 200 {
			t.Errorf("of the kind %d there are %d", kind, kinds[kind])
		}
	}
	for first := 0xc2; first < 0xe0; first++ {
		if firsts[first] < 10 {
			t.Errorf("with %02x begin %d", first, firsts[first])
		}
	}
}
