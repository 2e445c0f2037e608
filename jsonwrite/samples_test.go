package jsonwrite_test

import (
	"fmt"
	"math"
	"math/big"
	"slices"
	"strings"
	"testing"

	"crucible/api"
	"crucible/number"
	"crucible/value"
)

// rule makes numbers that look like any, the same in each run.
type rule struct{ state uint64 }

func (r *rule) next() uint64 {
	r.state += 0x9e3779b97f4a7c15
	z := r.state
	z = (z ^ z>>30) * 0xbf58476d1ce4e5b9
	z = (z ^ z>>27) * 0x94d049bb133111eb
	return z ^ z>>31
}

func (r *rule) below(n int) int { return int(r.next() % uint64(n)) }

func pick[T any](r *rule, l ...T) T { return l[r.below(len(l))] }

// points are code points where something turns.
var points = []rune{0, 1, 7, 8, 9, 10, 11, 12, 13, 14, 31, 32, '"', '/', '0', ':', 'A', '[', '\\', ']', 'a', 'b', 'u', '{', '}', 127, 128, 233, 0x7ff, 0x800, 0x2028, 0xd7ff, 0xe000, 0xfb00, 0xfffd, 0xffff, 0x10000, 0x1f600, 0x10ffff}

func (r *rule) text() string {
	out := ""
	for range r.below(4) {
		out += string(pick(r, points...))
	}
	return out
}

func (r *rule) finite() float64 {
	for {
		if f := math.Float64frombits(r.next()); !math.IsInf(f, 0) && !math.IsNaN(f) {
			return f
		}
	}
}

// keptFinite is a pattern whose exponent bits, which are these, are not all 1.
func keptFinite[T uint16 | uint32](x, exponent T) T {
	if x&exponent == exponent {
		x &^= exponent / 2
	}
	return x
}

// number is one that some finite pattern of 64 bits has: of any width, whole or not.
func (r *rule) number() api.Value {
	switch r.below(8) {
	case 0:
		return num(int64(r.below(7) - 3))
	case 1:
		return numberOf(float64(int64(r.next()) >> r.below(64)))
	case 2:
		return numberOf(r.finite())
	case 3:
		return number.Of(keptFinite(uint16(r.next()), 0x7c00))
	case 4:
		return number.Of(keptFinite(uint32(r.next()), 0x7f800000))
	case 5:
		return numberOf(math.Ldexp(float64(r.below(4)-2), r.below(2097)-1074))
	case 6:
		return numberOf(float64(r.below(2000)-1000) / 100)
	}
	return float(pick[uint64](r, half3, half3|1<<63, 1, 1<<63|1, 0x3fb999999999999a, 0x432fffffffffffff, 0x000fffffffffffff))
}

// foreign is a value that may be and is not JSON's, wherever it stands.
func (r *rule) foreign() api.Value {
	switch r.below(8) {
	case 0:
		return raw(pick(r, "", "a", "\xff", "\x00\x80"))
	case 1:
		return tag(pick[uint64](r, 0, 1, 4, 1<<64-1), pick(r, num(0), text("a"), raw(""), list(raw("")), float(plus)))
	case 2:
		return simple(pick[uint64](r, 0, 19, 23, 32, 255))
	case 3:
		return ext(pick[int8](r, -128, -1, 0, 5, 127), pick(r, "", "abc", "\xff"))
	case 4:
		return float(pick[uint64](r, plus, minus, noNumber))
	case 5:
		return pick(r, whole("9007199254740993"), whole("-9007199254740993"), whole("18446744073709551615"), whole("-18446744073709551617"), whole("9223372036854775807"))
	case 6:
		return wholeOf(new(big.Int).Lsh(big.NewInt(pick[int64](r, 1, -1, 5)), uint(1024+r.below(100))))
	}
	n := bigOf(numberOf(math.Ldexp(1+float64(r.below(100))/128, 60+r.below(900))).Int)
	return wholeOf(n.Add(n, big.NewInt(1)))
}

// key is one that none of the others is; where it may hurt, some are no texts.
func (r *rule) key(more int, hurt bool) api.Value {
	if !hurt || r.below(12) > 0 {
		return text(r.text())
	}
	return pick(r, null, yes, num(int64(r.below(3))), float(half3), list(), list(text("a")), object(), raw("a"), r.foreign(), r.value(more, true))
}

// value is one that may be, with at most so many lists and maps in one another; if it may not hurt, it is in JSON.
func (r *rule) value(more int, hurt bool) api.Value {
	if hurt && r.below(12) == 0 {
		return r.foreign()
	}
	if more > 0 && r.below(3) > 0 {
		if r.below(2) == 0 {
			return list(r.values(r.below(5), more-1, hurt)...)
		}
		return r.object(more, hurt)
	}
	switch r.below(6) {
	case 0:
		return null
	case 1:
		return pick(r, no, yes)
	case 2, 3:
		return text(r.text())
	}
	return r.number()
}

func (r *rule) values(n, more int, hurt bool) []api.Value {
	var out []api.Value
	for range n {
		out = append(out, r.value(more, hurt))
	}
	return out
}

func (r *rule) object(more int, hurt bool) api.Value {
	var kids []api.Value
	for range r.below(6) {
		kids = append(kids, r.key(more-1, hurt), r.value(more-1, hurt))
	}
	return mapOf(kids)
}

// mapOf is the map of pairs in any order, of those with one key the first alone.
func mapOf(kids []api.Value) api.Value {
	pairs := slices.Collect(slices.Chunk(kids, 2))
	byKey := func(a, b []api.Value) int { return value.Compare(a[0], b[0]) }
	slices.SortStableFunc(pairs, byKey)
	pairs = slices.CompactFunc(pairs, func(a, b []api.Value) bool { return byKey(a, b) == 0 })
	return object(slices.Concat(pairs...)...)
}

// spoiled is v with n of its nodes changed, most often to what may not be.
func (r *rule) spoiled(v api.Value, n int) api.Value {
	v = value.Copy(v)
	for range n {
		node := &v
		for len(node.Kids) > 0 && r.below(3) > 0 {
			node = &node.Kids[r.below(len(node.Kids))]
		}
		r.change(node)
	}
	return v
}

func (r *rule) change(v *api.Value) {
	switch r.below(9) {
	case 0:
		v.Kind = api.Kind(r.below(15) - 1)
	case 1:
		v.N = pick[uint64](r, 0, 1, 2, 3, 20, 255, 256, 1<<64-1)
	case 2:
		v.Int.Neg = !v.Int.Neg
	case 3:
		v.Int.Mag = pick(r, api.Nat{}, api.Nat{0}, api.Nat{1}, api.Nat{5, 0}, api.Nat{1, 1 << 21}, api.Nat{0, 0, 1})
	case 4:
		v.Bits = pick[uint64](r, 0, 1, 1<<63, half3, 0x3ff0000000000000, plus, minus, noNumber, noNumber+1, 1<<64-1)
	case 5:
		v.Ext = pick[int8](r, -128, -1, 0, 1)
	case 6:
		v.Text = pick(r, "", "a", "\xff", "a\x80", "\xed\xa0\x80", "é")
	case 7:
		v.Kids = append(v.Kids, r.value(1, true))
	case 8:
		v.Kids = v.Kids[:len(v.Kids)/2]
	}
}

// anything is a struct with anything in it: in JSON, not in JSON, or such that may not be.
func (r *rule) anything(more int) api.Value {
	switch r.below(4) {
	case 0:
		return r.value(more, false)
	case 1:
		return r.value(more, true)
	}
	return r.spoiled(r.value(more, r.below(2) == 0), 1+r.below(3))
}

// turns are bytes at which something turns in a JSON text.
const turns = "\x00\x08\x09\x0a\x0b\x0d\x1f !\"#+,-./01789:@ABDEFG[\\]^abcdefnrtu{|}\x7f\x80\xbf\xc2\xe0\xed\xef\xf0\xf4\xff"

func (r *rule) wild() byte {
	if r.below(5) == 0 {
		return byte(r.next())
	}
	return turns[r.below(len(turns))]
}

// anyString makes canonical texts, such with bytes left out, put in, changed or in another order, pieces of them, and several in a row.
func (r *rule) anyString(more int) string {
	s := []byte(written(r.value(more, false)))
	for range max(0, r.below(5)-2) {
		at := r.below(len(s) + 1)
		switch r.below(6) {
		case 0:
			s = slices.Insert(s, at, r.wild())
		case 1:
			s = slices.Delete(s, at, min(at+1, len(s)))
		case 2:
			if at < len(s) {
				s[at] = r.wild()
			}
		case 3:
			s = s[:at]
		case 4:
			s = append(s, written(r.value(1, false))...)
		case 5:
			if at+1 < len(s) {
				s[at], s[at+1] = s[at+1], s[at]
			}
		}
	}
	return string(s)
}

// loosely is a JSON text of a value in JSON in any of the ways to write it down.
func (r *rule) loosely(v api.Value) string {
	var out strings.Builder
	blank := func() string {
		if r.below(30) > 0 {
			return ""
		}
		return pick(r, " ", "\n", "\t", "\r", "  ")
	}
	parts := func(opening, closing string, kids []api.Value, between func(i int) string) {
		out.WriteString(opening)
		for i, kid := range kids {
			if i > 0 {
				out.WriteString(between(i))
			}
			out.WriteString(r.loosely(kid))
		}
		out.WriteString(closing)
	}
	out.WriteString(blank())
	switch v.Kind {
	case api.VList:
		parts("["+blank(), "]", v.Kids, func(int) string { return "," })
	case api.VMap:
		pairs := slices.Collect(slices.Chunk(v.Kids, 2))
		slices.SortFunc(pairs, func(a, b []api.Value) int { return byUnits(a[0].Text, b[0].Text) })
		if len(pairs) > 1 && r.below(4) == 0 {
			i := r.below(len(pairs) - 1)
			pairs[i], pairs[i+1] = pairs[i+1], pairs[i]
		}
		parts("{"+blank(), "}", slices.Concat(pairs...), func(i int) string { return ":,"[1-i%2 : 2-i%2] })
	case api.VText:
		out.WriteString(r.literal(v.Text))
	case api.VInt, api.VFloat:
		out.WriteString(r.digits(written(v)))
	default:
		out.WriteString(written(v))
	}
	out.WriteString(blank())
	return out.String()
}

// literal says a few of the code points otherwise than in the one way.
func (r *rule) literal(s string) string {
	out := `"`
	for _, c := range s {
		switch {
		case r.below(8) > 0:
			out += said(c)
		case c == '/':
			out += `\/`
		case c < 65536:
			out += fmt.Sprintf(pick(r, `\u%04x`, `\u%04X`), c)
		default:
			out += fmt.Sprintf(`\u%04x\u%04x`, 0xd800+(c-65536)>>10, 0xdc00+(c-65536)&0x3ff)
		}
	}
	return out + `"`
}

// digits writes a few numbers otherwise than in the one way.
func (r *rule) digits(s string) string {
	if r.below(8) > 0 {
		return s
	}
	mantissa, power, hasPower := strings.Cut(s, "e")
	if hasPower {
		power = "e" + power
	}
	switch r.below(5) {
	case 0:
		return strings.ToUpper(s)
	case 1:
		return strings.ReplaceAll(s, "+", "")
	case 2:
		if strings.Contains(mantissa, ".") {
			return mantissa + "0" + power
		}
		return mantissa + ".0" + power
	case 3:
		if hasPower {
			return mantissa + power[:2] + "0" + power[2:]
		}
		return s + "e0"
	}
	if s == "0" {
		return "-0"
	}
	return s
}

// The samples themselves: there is enough of each sort.
func TestSamples(t *testing.T) {
	r := rule{1801}
	codes := map[int]int{}
	paths := map[string]int{}
	for range 8000 {
		v := r.value(4, false)
		if _, e := wants(v); e != (told{}) {
			t.Fatalf("%s is to be in JSON: %v", show(v), e)
		}
		v = r.value(4, true)
		if err := value.Check(v); err != nil {
			t.Fatalf("%s may not be: %v", show(v), err)
		}
		_, e := wants(v)
		codes[e.code]++
		paths[e.path]++
		_, e = wants(r.anything(3))
		codes[e.code]++
	}
	if codes[0] < 2000 || codes[rep] < 2000 || codes[arg] < 2000 || len(paths) < 200 {
		t.Errorf("%v, %d paths", codes, len(paths))
	}
	right, wrong := 0, 0
	for range 8000 {
		if isCanonical(r.anyString(3)) {
			right++
		} else {
			wrong++
		}
	}
	if right < 2000 || wrong < 2000 {
		t.Errorf("%d canonical, %d not", right, wrong)
	}
	right, wrong = 0, 0
	for range 8000 {
		if isCanonical(r.loosely(r.value(2, false))) {
			right++
		} else {
			wrong++
		}
	}
	if right < 2000 || wrong < 2000 {
		t.Errorf("%d canonical, %d not", right, wrong)
	}
}
