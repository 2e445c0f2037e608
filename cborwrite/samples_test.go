package cborwrite_test

import (
	"encoding/binary"
	"math"
	"math/big"
	"slices"
	"strings"
	"testing"

	"crucible/api"
	"crucible/cborread"
	"crucible/value"
)

// rule makes numbers that look like any, the same in each run.
type rule struct{ state uint64 }

func (r *rule) next() uint64 {
	r.state += 0x9e3779b97f4a7c15
	z := r.state
	z = (z ^ z>>30) * 0xbf58476d1ce4e5b9
	z = (z ^ z>>27) * 0x94d049bb133111eb
	return z ^ z>>31
}

func (r *rule) below(n int) int { return int(r.next() % uint64(n)) }

// seldom: in one of twelve cases.
func (r *rule) seldom() bool { return r.below(12) == 0 }

func pick[T any](r *rule, l ...T) T { return l[r.below(len(l))] }

// points are code points where something turns.
var points = []rune{0, 23, 24, 31, 'a', 'b', 'z', 127, 128, 233, 0x7ff, 0x800, 0xd7ff, 0xe000, 0xfb00, 0xffff, 0x10000, 0x1f600, 0x10ffff}

func (r *rule) text() string {
	out := ""
	for range r.below(4) {
		out += string(pick(r, points...))
	}
	return out
}

func (r *rule) bytes(most int) string {
	out := make([]byte, r.below(most+1))
	for i := range out {
		out[i] = pick(r, 0, 1, 0x7f, 0x80, 0xff, byte(r.next()))
	}
	return string(out)
}

// integer makes one of any size, those about the edges of a width more often than others.
func (r *rule) integer() api.Value {
	n := new(big.Int).SetUint64(r.next() >> r.below(64))
	switch r.below(4) {
	case 0:
		n.SetUint64(uint64(r.below(30)))
	case 1:
		n.Lsh(big.NewInt(1), uint(pick(r, 8, 16, 24, 32, 53, 63, 64, 65, 72, 128, 200)))
		n.Add(n, big.NewInt(int64(r.below(5)-2)))
	case 2:
		n.SetBytes([]byte(r.bytes(20)))
	}
	if r.below(2) == 0 {
		n.Not(n)
	}
	return wholeOf(n)
}

// float makes one that is no whole number.
func (r *rule) float() api.Value {
	f := pick(r, 1.5, -0.1, 0.5, math.Inf(1), math.Inf(-1), math.NaN(), math.SmallestNonzeroFloat64, half(uint16(r.next())), float64(math.Float32frombits(uint32(r.next()))), math.Float64frombits(r.next()))
	if v := numberOf(f); v.Kind == api.VFloat {
		return v
	}
	return float(half3)
}

func (r *rule) ext() api.Value {
	return ext(pick[int8](r, -128, -1, 0, 5, 127), pick(r, "", "abc", "\xff"))
}

// plain makes a value that is no container; hurt: it may be an extension.
func (r *rule) plain(hurt bool) api.Value {
	if hurt && r.seldom() {
		return r.ext()
	}
	switch r.below(10) {
	case 0:
		return null
	case 1:
		return pick(r, no, yes)
	case 2:
		return simple(pick(r, 0, 19, 23, 32, 255, uint64(32+r.below(224))))
	case 3:
		return raw(r.bytes(6))
	case 4, 5:
		return text(r.text())
	case 6:
		return r.float()
	}
	return r.integer()
}

// value makes one that may be, with at most so many containers in one another; hurt: extensions may stand in it.
func (r *rule) value(depth int, hurt bool) api.Value {
	if depth == 0 || r.below(3) == 0 {
		return r.plain(hurt)
	}
	switch r.below(5) {
	case 0:
		return tag(pick(r, 0, 1, 4, 23, 24, 32, 256, 55799, 1<<32, r.next()|1<<40), r.value(depth-1, hurt))
	case 1, 2:
		return list(r.values(r.below(5), depth-1, hurt)...)
	}
	return r.object(depth, hurt)
}

func (r *rule) values(n, depth int, hurt bool) (out []api.Value) {
	for range n {
		out = append(out, r.value(depth, hurt))
	}
	return out
}

func (r *rule) object(depth int, hurt bool) api.Value {
	return mapOf(r.values(2*r.below(6), depth-1, hurt))
}

// mapOf is the map of pairs in any order, of those with one key the first alone.
func mapOf(kids []api.Value) api.Value {
	pairs := slices.Collect(slices.Chunk(kids, 2))
	byKey := func(a, b []api.Value) int { return value.Compare(a[0], b[0]) }
	slices.SortStableFunc(pairs, byKey)
	pairs = slices.CompactFunc(pairs, func(a, b []api.Value) bool { return byKey(a, b) == 0 })
	return object(slices.Concat(pairs...)...)
}

// spoiled is v with n of its nodes changed, most often to what may not be.
func (r *rule) spoiled(v api.Value, n int) api.Value {
	v = value.Copy(v)
	for range n {
		node := &v
		for len(node.Kids) > 0 && r.below(3) > 0 {
			node = &node.Kids[r.below(len(node.Kids))]
		}
		r.change(node)
	}
	return v
}

func (r *rule) change(v *api.Value) {
	switch r.below(9) {
	case 0:
		v.Kind = api.Kind(r.below(15) - 1)
	case 1:
		v.N = pick[uint64](r, 0, 1, 2, 3, 20, 23, 24, 255, 256, 1<<64-1)
	case 2:
		v.Int.Neg = !v.Int.Neg
	case 3:
		v.Int.Mag = pick(r, api.Nat{}, api.Nat{0}, api.Nat{1}, api.Nat{5, 0}, api.Nat{1, 1 << 21}, api.Nat{0, 0, 1})
	case 4:
		v.Bits = pick[uint64](r, 0, 1, 1<<63, half3, 0x3ff0000000000000, plus, minus, noNumber, noNumber+1, 1<<64-1)
	case 5:
		v.Ext = pick[int8](r, -128, -1, 0, 1)
	case 6:
		v.Text = pick(r, "", "a", "\xff", "a\x80", "\xed\xa0\x80", "é")
	case 7:
		v.Kids = append(v.Kids, r.value(1, true))
	case 8:
		v.Kids = v.Kids[:len(v.Kids)/2]
	}
}

// anything is a struct with anything in it: in CBOR, not in CBOR, or such that may not be.
func (r *rule) anything(depth int) api.Value {
	switch r.below(4) {
	case 0:
		return r.value(depth, false)
	case 1:
		return r.value(depth, true)
	}
	return r.spoiled(r.value(depth, r.below(2) == 0), 1+r.below(3))
}

// heads are all heads of a major type and an argument, the shortest first.
func heads(major byte, arg uint64) (out []string) {
	first := major << 5
	if arg < 24 {
		out = append(out, string([]byte{first + byte(arg)}))
	}
	if arg < 1<<8 {
		out = append(out, string([]byte{first + 24, byte(arg)}))
	}
	if arg < 1<<16 {
		out = append(out, string(binary.BigEndian.AppendUint16([]byte{first + 25}, uint16(arg))))
	}
	if arg < 1<<32 {
		out = append(out, string(binary.BigEndian.AppendUint32([]byte{first + 26}, uint32(arg))))
	}
	return append(out, string(binary.BigEndian.AppendUint64([]byte{first + 27}, arg)))
}

// floats are the heads of major type 7 that are this number: of no number some, of others one of each width that has it, the narrowest first.
func floats(f float64) (out []string) {
	if math.IsNaN(f) {
		return []string{of("f9 7e 00"), of("f9 7e 01"), of("f9 fe 00"), of("f9 7c 01"), of("fa 7f c0 00 00"), of("fb 7f f8 00 00 00 00 00 00"), of("fb ff ff ff ff ff ff ff ff")}
	}
	if bits, ok := halves[f]; ok {
		out = append(out, string(binary.BigEndian.AppendUint16([]byte{0xf9}, bits)))
	}
	if float64(float32(f)) == f {
		out = append(out, string(binary.BigEndian.AppendUint32([]byte{0xfa}, math.Float32bits(float32(f)))))
	}
	return append(out, string(binary.BigEndian.AppendUint64([]byte{0xfb}, math.Float64bits(f))))
}

// maker writes values down, now and then in another form than the canonical one.
type maker struct {
	*rule
	strings.Builder
}

func (m *maker) head(major byte, arg uint64) {
	all := heads(major, arg)
	if m.seldom() {
		m.WriteString(pick(m.rule, all...))
		return
	}
	m.WriteString(all[0])
}

// all writes a container or a string down, with its length or with a break.
func (m *maker) all(major byte, n int, inside func(isOpen bool)) {
	if m.seldom() {
		m.WriteByte(major<<5 + 31)
		inside(true)
		m.WriteByte(0xff)
		return
	}
	m.head(major, uint64(n))
	inside(false)
}

func (m *maker) string(major byte, s string) {
	m.all(major, len(s), func(isOpen bool) {
		if isOpen {
			m.head(major, uint64(len(s)))
		}
		m.WriteString(s)
	})
}

func (m *maker) integer(n *big.Int) {
	if f, _ := new(big.Float).SetInt(n).Float64(); m.seldom() && same(numberOf(f), wholeOf(n)) {
		m.WriteString(pick(m.rule, floats(f)...))
		return
	}
	negative, size := uint64(0), n
	if n.Sign() < 0 {
		negative, size = 1, new(big.Int).Not(n)
	}
	if size.IsUint64() && !m.seldom() {
		m.head(byte(negative), size.Uint64())
		return
	}
	m.head(6, 2+negative)
	noughts := ""
	if m.seldom() {
		noughts = "\x00"
	}
	m.string(2, noughts+string(size.Bytes()))
}

// pairs are those of a map in the canonical order, or two of them the other way round.
func (m *maker) pairs(kids []api.Value) []api.Value {
	pairs := slices.Collect(slices.Chunk(kids, 2))
	slices.SortFunc(pairs, func(a, b []api.Value) int { return strings.Compare(document(a[0]), document(b[0])) })
	if len(pairs) > 1 && m.seldom() {
		i := m.below(len(pairs) - 1)
		pairs[i], pairs[i+1] = pairs[i+1], pairs[i]
	}
	return slices.Concat(pairs...)
}

func (m *maker) put(v api.Value) {
	each := func(l []api.Value) func(bool) {
		return func(bool) {
			for _, kid := range l {
				m.put(kid)
			}
		}
	}
	switch v.Kind {
	case api.VInt:
		m.integer(bigOf(v))
	case api.VFloat:
		forms := floats(math.Float64frombits(v.Bits))
		if !m.seldom() {
			forms = forms[:1]
		}
		m.WriteString(pick(m.rule, forms...))
	case api.VBytes:
		m.string(2, v.Text)
	case api.VText:
		m.string(3, v.Text)
	case api.VList:
		m.all(4, len(v.Kids), each(v.Kids))
	case api.VMap:
		m.all(5, len(v.Kids)/2, each(m.pairs(v.Kids)))
	case api.VTag:
		m.head(6, v.N)
		m.put(v.Kids[0])
	default:
		m.WriteString(document(v))
	}
}

// loosely is a document of a value in CBOR, in any of its forms.
func (r *rule) loosely(v api.Value) string {
	m := &maker{rule: r}
	m.put(v)
	return m.String()
}

// turns are bytes at which something turns.
var turns = of("00 01 17 18 19 1a 1b 1c 1f 20 37 38 3b 3f 40 41 42 48 49 57 58 5b 5f 60 61 62 63 64 78 7c 7e 7f 80 81 82 98 9f a0 a1 a2 b8 bf c1 c2 c3 c4 d8 d9 e0 ed f3 f4 f5 f6 f7 f8 f9 fa fb fc ff")

func (r *rule) wild() byte {
	if r.below(5) == 0 {
		return byte(r.next())
	}
	return turns[r.below(len(turns))]
}

// anyString makes canonical documents, such with bytes left out, put in, changed or in another order, beginnings of them, and several in a row.
func (r *rule) anyString(depth int) string {
	s := []byte(document(r.value(depth, false)))
	for range max(0, r.below(5)-2) {
		at := r.below(len(s) + 1)
		switch r.below(6) {
		case 0:
			s = slices.Insert(s, at, r.wild())
		case 1:
			s = slices.Delete(s, at, min(at+1, len(s)))
		case 2:
			if at < len(s) {
				s[at] = r.wild()
			}
		case 3:
			s = s[:at]
		case 4:
			s = append(s, document(r.value(1, false))...)
		case 5:
			if at+1 < len(s) {
				s[at], s[at+1] = s[at+1], s[at]
			}
		}
	}
	return string(s)
}

// The samples themselves: there is enough of each sort.
func TestSamples(t *testing.T) {
	r := rule{2101}
	codes := map[int]int{}
	paths := map[string]int{}
	kinds := map[api.Kind]int{}
	for range 8000 {
		v := r.value(4, false)
		if _, e := wants(v); e != (told{}) {
			t.Fatalf("%s is to be in CBOR: %v", show(v), e)
		}
		kinds[v.Kind]++
		v = r.value(4, true)
		if err := value.Check(v); err != nil {
			t.Fatalf("%s may not be: %v", show(v), err)
		}
		_, e := wants(v)
		codes[e.code]++
		paths[e.path]++
		_, e = wants(r.anything(3))
		codes[e.code]++
	}
	if codes[0] < 2000 || codes[rep] < 2000 || codes[arg] < 2000 || len(paths) < 200 {
		t.Errorf("%v, %d paths", codes, len(paths))
	}
	for kind := api.VNull; kind < api.VExt; kind++ {
		if kinds[kind] < 100 {
			t.Errorf("of the kind %d there are %d", kind, kinds[kind])
		}
	}
	for name, make := range map[string]func() string{
		"changed": func() string { return r.anyString(3) },
		"loosely": func() string {
			v := r.value(3, false)
			s := r.loosely(v)
			if read, err := cborread.Read(s); err != nil || !same(read, v) {
				t.Fatalf("%s is %s, %v, want %s", hexed(s), show(read), err, show(v))
			}
			return s
		},
	} {
		right := 0
		for range 8000 {
			if isCanonical(make()) {
				right++
			}
		}
		if right < 2000 || right > 6500 {
			t.Errorf("%s: %d of 8000 are canonical", name, right)
		}
	}
}
