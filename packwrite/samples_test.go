package packwrite_test

import (
	"math"
	"math/big"
	"slices"
	"strings"
	"testing"

	"crucible/api"
	"crucible/packread"
	"crucible/value"
)

// rule makes numbers that look like any, the same in each run.
type rule struct{ state uint64 }

func (r *rule) next() uint64 {
	r.state += 0x9e3779b97f4a7c15
	z := r.state
	z = (z ^ z>>30) * 0xbf58476d1ce4e5b9
	z = (z ^ z>>27) * 0x94d049bb133111eb
	return z ^ z>>31
}

func (r *rule) below(n int) int { return int(r.next() % uint64(n)) }

// seldom: in one of twelve cases.
func (r *rule) seldom() bool { return r.below(12) == 0 }

func pick[T any](r *rule, l ...T) T { return l[r.below(len(l))] }

// points are code points where something turns.
var points = []rune{0, 31, 'a', 'b', 'z', 127, 128, 233, 0x7ff, 0x800, 0xfff, 0x1000, 0xd7ff, 0xe000, 0xfb00, 0xffff, 0x10000, 0x1f600, 0x3ffff, 0x40000, 0xfffff, 0x100000, 0x10ffff}

func (r *rule) text() string {
	out := ""
	for range r.below(4) {
		out += string(pick(r, points...))
	}
	return out
}

func (r *rule) bytes(most int) string {
	out := make([]byte, r.below(most+1))
	for i := range out {
		out[i] = pick(r, 0, 1, 0x7f, 0x80, 0xff, byte(r.next()))
	}
	return string(out)
}

// integer makes one that MessagePack has, those about the edges of a width more often than others, some of them only as floats.
func (r *rule) integer() api.Value {
	n := new(big.Int).SetUint64(r.next() >> r.below(64))
	switch r.below(5) {
	case 0:
		n.SetUint64(uint64(r.below(140)))
	case 1:
		n.Lsh(big.NewInt(1), uint(pick(r, 5, 7, 8, 15, 16, 24, 31, 32, 53, 63)))
		n.Add(n, big.NewInt(int64(r.below(5)-2)))
	case 2:
		n = bigOf(numberOf(math.Ldexp(float64(r.next()>>r.below(64)), r.below(960))))
		if r.below(2) == 0 {
			n.Neg(n)
		}
		return wholeOf(n)
	}
	if r.below(2) == 0 && n.BitLen() < 64 {
		n.Not(n)
	}
	return wholeOf(n)
}

// float makes one that is no whole number.
func (r *rule) float() api.Value {
	f := pick(r, 1.5, -0.1, 0.5, math.Inf(1), math.Inf(-1), math.NaN(), math.SmallestNonzeroFloat64, float64(math.Float32frombits(uint32(r.next()))), math.Float64frombits(r.next()))
	v := numberOf(f)
	if v.Kind != api.VFloat {
		return float(half3)
	}
	return v
}

// foreign makes a node that is not MessagePack's.
func (r *rule) foreign(hurt bool) api.Value {
	switch r.below(3) {
	case 0:
		return tag(pick[uint64](r, 0, 1, 4, 32, 1<<40), r.plain(hurt))
	case 1:
		return simple(pick[uint64](r, 0, 19, 23, 32, 255))
	}
	// Odd numbers of more bits than a float has.
	n := new(big.Int).SetUint64(r.next() | 1<<63 | 1)
	n.Lsh(n, uint(r.below(100)))
	if r.below(2) == 0 {
		return wholeOf(n.Neg(n))
	}
	return wholeOf(n.Lsh(n, 1))
}

// plain makes a value that is no container; hurt: it may be one that is not MessagePack's.
func (r *rule) plain(hurt bool) api.Value {
	if hurt && r.seldom() {
		return r.foreign(hurt)
	}
	switch r.below(10) {
	case 0:
		return null
	case 1:
		return pick(r, no, yes)
	case 2:
		n := pick(r, 0, 1, 2, 3, 4, 8, 16, r.below(20))
		return ext(pick(r, 0, 1, -1, 5, 127, -128, int8(r.next())), strings.Repeat(pick(r, "\x00", "a", "\xff"), n))
	case 3:
		return raw(r.bytes(6))
	case 4, 5:
		return text(r.text())
	case 6:
		return r.float()
	}
	return r.integer()
}

// value makes one that may be, with at most so many lists and maps in one another; hurt: nodes may stand in it that are not MessagePack's.
func (r *rule) value(depth int, hurt bool) api.Value {
	if depth == 0 || r.below(3) == 0 {
		return r.plain(hurt)
	}
	if r.below(2) == 0 {
		return list(r.values(r.below(5), depth-1, hurt)...)
	}
	return r.object(depth, hurt)
}

func (r *rule) values(n, depth int, hurt bool) (out []api.Value) {
	for range n {
		out = append(out, r.value(depth, hurt))
	}
	return out
}

func (r *rule) object(depth int, hurt bool) api.Value {
	return mapOf(r.values(2*r.below(6), depth-1, hurt))
}

// mapOf is the map of pairs in any order, of those with one key the first alone.
func mapOf(kids []api.Value) api.Value {
	pairs := slices.Collect(slices.Chunk(kids, 2))
	byKey := func(a, b []api.Value) int { return value.Compare(a[0], b[0]) }
	slices.SortStableFunc(pairs, byKey)
	pairs = slices.CompactFunc(pairs, func(a, b []api.Value) bool { return byKey(a, b) == 0 })
	return object(slices.Concat(pairs...)...)
}

// spoiled is v with n of its nodes changed, most often to what may not be.
func (r *rule) spoiled(v api.Value, n int) api.Value {
	v = value.Copy(v)
	for range n {
		node := &v
		for len(node.Kids) > 0 && r.below(3) > 0 {
			node = &node.Kids[r.below(len(node.Kids))]
		}
		r.change(node)
	}
	return v
}

func (r *rule) change(v *api.Value) {
	switch r.below(9) {
	case 0:
		v.Kind = api.Kind(r.below(15) - 1)
	case 1:
		v.N = pick[uint64](r, 0, 1, 2, 3, 20, 23, 24, 255, 256, 1<<64-1)
	case 2:
		v.Int.Neg = !v.Int.Neg
	case 3:
		v.Int.Mag = pick(r, api.Nat{}, api.Nat{0}, api.Nat{1}, api.Nat{5, 0}, api.Nat{1, 1 << 31}, api.Nat{0, 0, 1}, api.Nat{1, 0, 1})
	case 4:
		v.Bits = pick[uint64](r, 0, 1, 1<<63, half3, 0x3ff0000000000000, plus, minus, noNumber, noNumber+1, 1<<64-1)
	case 5:
		v.Ext = pick[int8](r, -128, -1, 0, 1)
	case 6:
		v.Text = pick(r, "", "a", "\xff", "a\x80", "\xed\xa0\x80", "é")
	case 7:
		v.Kids = append(v.Kids, r.value(1, true))
	case 8:
		v.Kids = v.Kids[:len(v.Kids)/2]
	}
}

// anything is a struct with anything in it: in MessagePack, not in it, or such that may not be.
func (r *rule) anything(depth int) api.Value {
	switch r.below(4) {
	case 0:
		return r.value(depth, false)
	case 1:
		return r.value(depth, true)
	}
	return r.spoiled(r.value(depth, r.below(2) == 0), 1+r.below(3))
}

// heads are all heads, but for the type of an extension, of a kind with so many bytes, items or pairs, the shortest first.
func heads(kind api.Kind, n int) (out []string) {
	wide := func(first byte, widths ...int) {
		for i, w := range widths {
			if uint64(n) < 1<<(8*w) {
				out = append(out, inBytes(first+byte(i), w, uint64(n)))
			}
		}
	}
	switch kind {
	case api.VText:
		if n < 32 {
			out = append(out, string([]byte{0xa0 + byte(n)}))
		}
		wide(0xd9, 1, 2, 4)
	case api.VBytes:
		wide(0xc4, 1, 2, 4)
	case api.VList:
		if n < 16 {
			out = append(out, string([]byte{0x90 + byte(n)}))
		}
		wide(0xdc, 2, 4)
	case api.VMap:
		if n < 16 {
			out = append(out, string([]byte{0x80 + byte(n)}))
		}
		wide(0xde, 2, 4)
	case api.VExt:
		if first, ok := map[int]byte{1: 0xd4, 2: 0xd5, 4: 0xd6, 8: 0xd7, 16: 0xd8}[n]; ok {
			out = append(out, string([]byte{first}))
		}
		wide(0xc7, 1, 2, 4)
	}
	return out
}

// integers are the items that are this whole number, the canonical one first.
func integers(n *big.Int) (out []string) {
	out = append(out, integer(n))
	more := func(s string) {
		if s != out[0] {
			out = append(out, s)
		}
	}
	for i, wide := range []int{1, 2, 4, 8} {
		if n.IsInt64() && (n.Int64()>>(8*wide-1) == 0 || n.Int64()>>(8*wide-1) == -1) {
			more(inBytes(0xd0+byte(i), wide, uint64(n.Int64())))
		}
		if n.IsUint64() && n.BitLen() <= 8*wide {
			more(inBytes(0xcc+byte(i), wide, n.Uint64()))
		}
	}
	if f, ok := exact(n); ok {
		for _, s := range floats(f) {
			more(s)
		}
		if f == 0 {
			more("\xca\x80\x00\x00\x00")
		}
	}
	return out
}

// floats are the items that are this number as a float, of no number some, the narrowest first.
func floats(f float64) (out []string) {
	if math.IsNaN(f) {
		return []string{of("ca 7f c0 00 00"), of("ca 7f c0 00 01"), of("ca ff c0 00 00"), of("ca 7f 80 00 01"), of("cb 7f f8 00 00 00 00 00 00"), of("cb ff ff ff ff ff ff ff ff")}
	}
	if float64(float32(f)) == f {
		out = append(out, inBytes(0xca, 4, uint64(math.Float32bits(float32(f)))))
	}
	return append(out, inBytes(0xcb, 8, math.Float64bits(f)))
}

// maker writes values down, now and then in another form than the canonical one.
type maker struct {
	*rule
	strings.Builder
}

// one puts one of the forms, most often the first.
func (m *maker) one(forms []string) {
	if m.seldom() {
		m.WriteString(pick(m.rule, forms...))
		return
	}
	m.WriteString(forms[0])
}

// pairs are those of a map in the canonical order, or two of them the other way round.
func (m *maker) pairs(kids []api.Value) []api.Value {
	pairs := slices.Collect(slices.Chunk(kids, 2))
	slices.SortFunc(pairs, func(a, b []api.Value) int { return strings.Compare(document(a[0]), document(b[0])) })
	if len(pairs) > 1 && m.seldom() {
		i := m.below(len(pairs) - 1)
		pairs[i], pairs[i+1] = pairs[i+1], pairs[i]
	}
	return slices.Concat(pairs...)
}

func (m *maker) put(v api.Value) {
	switch v.Kind {
	case api.VInt:
		m.one(integers(bigOf(v)))
	case api.VFloat:
		m.one(floats(math.Float64frombits(v.Bits)))
	case api.VText, api.VBytes:
		m.one(heads(v.Kind, len(v.Text)))
		m.WriteString(v.Text)
	case api.VExt:
		m.one(heads(v.Kind, len(v.Text)))
		m.WriteByte(byte(v.Ext))
		m.WriteString(v.Text)
	case api.VList:
		m.one(heads(v.Kind, len(v.Kids)))
		for _, kid := range v.Kids {
			m.put(kid)
		}
	case api.VMap:
		m.one(heads(v.Kind, len(v.Kids)/2))
		for _, kid := range m.pairs(v.Kids) {
			m.put(kid)
		}
	default:
		m.WriteString(document(v))
	}
}

// loosely is a document of a value in MessagePack, in any of its forms.
func (r *rule) loosely(v api.Value) string {
	m := &maker{rule: r}
	m.put(v)
	return m.String()
}

// turns are bytes at which something turns.
var turns = of("00 01 02 17 20 28 3f 41 61 7f 80 81 82 83 8f 90 91 92 93 9f a0 a1 a2 a3 a4 bf c0 c1 c2 c3 c4 c5 c6 c7 c8 c9 ca cb cc cd ce cf d0 d1 d2 d3 d4 d5 d6 d7 d8 d9 da db dc dd de df e0 e2 ed ef f0 f3 f4 f5 f8 ff")

func (r *rule) wild() byte {
	if r.below(5) == 0 {
		return byte(r.next())
	}
	return turns[r.below(len(turns))]
}

// anyString makes canonical documents, such with bytes left out, put in, changed or in another order, beginnings of them, and several in a row.
func (r *rule) anyString(depth int) string {
	s := []byte(document(r.value(depth, false)))
	for range max(0, r.below(5)-2) {
		at := r.below(len(s) + 1)
		switch r.below(6) {
		case 0:
			s = slices.Insert(s, at, r.wild())
		case 1:
			s = slices.Delete(s, at, min(at+1, len(s)))
		case 2:
			if at < len(s) {
				s[at] = r.wild()
			}
		case 3:
			s = s[:at]
		case 4:
			s = append(s, document(r.value(1, false))...)
		case 5:
			if at+1 < len(s) {
				s[at], s[at+1] = s[at+1], s[at]
			}
		}
	}
	return string(s)
}

// The samples themselves: there is enough of each sort.
func TestSamples(t *testing.T) {
	r := rule{2401}
	codes := map[int]int{}
	paths := map[string]int{}
	kinds := map[api.Kind]int{}
	for range 8000 {
		v := r.value(4, false)
		if _, e := wants(v); e != (told{}) {
			t.Fatalf("%s is to be in MessagePack: %v", show(v), e)
		}
		kinds[v.Kind]++
		v = r.value(4, true)
		if err := value.Check(v); err != nil {
			t.Fatalf("%s may not be: %v", show(v), err)
		}
		_, e := wants(v)
		codes[e.code]++
		paths[e.path]++
		_, e = wants(r.anything(3))
		codes[e.code]++
	}
	if codes[0] < 2000 || codes[rep] < 2000 || codes[arg] < 2000 || len(paths) < 200 {
		t.Errorf("%v, %d paths", codes, len(paths))
	}
	for _, kind := range []api.Kind{api.VNull, api.VBool, api.VInt, api.VFloat, api.VText, api.VBytes, api.VList, api.VMap, api.VExt} {
		if kinds[kind] < 100 {
			t.Errorf("of the kind %d there are %d", kind, kinds[kind])
		}
	}
	for name, make := range map[string]func() string{
		"changed": func() string { return r.anyString(3) },
		"loosely": func() string {
			v := r.value(3, false)
			s := r.loosely(v)
			if read, err := packread.Read(s); err != nil || !same(read, v) {
				t.Fatalf("%s is %s, %v, want %s", hexed(s), show(read), err, show(v))
			}
			return s
		},
	} {
		right := 0
		for range 8000 {
			if isCanonical(make()) {
				right++
			}
		}
		if right < 2000 || right > 6500 {
			t.Errorf("%s: %d of 8000 are canonical", name, right)
		}
	}
}
