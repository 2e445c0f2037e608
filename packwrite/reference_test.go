package packwrite_test

import (
	"encoding/binary"
	"encoding/hex"
	"errors"
	"fmt"
	"math"
	"math/big"
	"slices"
	"strconv"
	"strings"
	"testing"
	"unicode/utf8"

	"crucible/api"
	"crucible/packwrite"
	"crucible/value"
)

const (
	plus     = 0x7ff0000000000000
	minus    = 0xfff0000000000000
	noNumber = 0x7ff8000000000000
	half3    = 0x3ff8000000000000 // 1.5
)

var (
	null = api.Value{Kind: api.VNull}
	no   = api.Value{Kind: api.VBool}
	yes  = api.Value{Kind: api.VBool, N: 1}
	none = api.Value{}
)

func text(s string) api.Value         { return api.Value{Kind: api.VText, Text: s} }
func raw(s string) api.Value          { return api.Value{Kind: api.VBytes, Text: s} }
func float(bits uint64) api.Value     { return api.Value{Kind: api.VFloat, Bits: bits} }
func simple(n uint64) api.Value       { return api.Value{Kind: api.VSimple, N: n} }
func list(l ...api.Value) api.Value   { return api.Value{Kind: api.VList, Kids: l} }
func object(l ...api.Value) api.Value { return api.Value{Kind: api.VMap, Kids: l} }

func tag(n uint64, v api.Value) api.Value {
	return api.Value{Kind: api.VTag, N: n, Kids: []api.Value{v}}
}

func ext(kind int8, bytes string) api.Value {
	return api.Value{Kind: api.VExt, Ext: kind, Text: bytes}
}

func limbs(neg bool, l ...uint32) api.Value {
	return api.Value{Kind: api.VInt, Int: api.Int{Neg: neg, Mag: l}}
}

// whole is a whole number by its decimal digits.
func whole(digits string) api.Value {
	n, ok := new(big.Int).SetString(digits, 10)
	if !ok {
		panic(digits)
	}
	return wholeOf(n)
}

func num(n int64) api.Value { return wholeOf(big.NewInt(n)) }

func wholeOf(n *big.Int) api.Value {
	bytes := new(big.Int).Abs(n).Bytes()
	bytes = append(make([]byte, -len(bytes)&3), bytes...)
	out := limbs(n.Sign() < 0)
	for i := len(bytes); i > 0; i -= 4 {
		out.Int.Mag = append(out.Int.Mag, binary.BigEndian.Uint32(bytes[i-4:]))
	}
	return out
}

// bigOf undoes wholeOf.
func bigOf(v api.Value) *big.Int {
	var bytes []byte
	for _, limb := range slices.Backward(v.Int.Mag) {
		bytes = binary.BigEndian.AppendUint32(bytes, limb)
	}
	out := new(big.Int).SetBytes(bytes)
	if v.Int.Neg {
		out.Neg(out)
	}
	return out
}

// numberOf is the value of a float of the language.
func numberOf(f float64) api.Value {
	switch {
	case math.IsNaN(f):
		return float(noNumber)
	case math.IsInf(f, 0) || f != math.Trunc(f):
		return float(math.Float64bits(f))
	}
	n, _ := big.NewFloat(f).Int(nil)
	return wholeOf(n)
}

// nested puts a value in n lists.
func nested(n int, v api.Value) api.Value {
	for range n {
		v = list(v)
	}
	return v
}

// deep is n lists in one another.
func deep(n int) api.Value { return nested(n-1, list()) }

func same(a, b api.Value) bool {
	return a.Kind == b.Kind && a.N == b.N && a.Int.Neg == b.Int.Neg && slices.Equal(a.Int.Mag, b.Int.Mag) && a.Bits == b.Bits && a.Ext == b.Ext && a.Text == b.Text && slices.EqualFunc(a.Kids, b.Kids, same)
}

// of is bytes by hexadecimal digits, with blanks anywhere.
func of(digits string) string {
	out, err := hex.DecodeString(strings.ReplaceAll(digits, " ", ""))
	if err != nil {
		panic(digits)
	}
	return string(out)
}

func show(v api.Value) string {
	s := fmt.Sprintf("%+q", fmt.Sprintf("%+v", v))
	if len(s) > 300 {
		return s[:300] + ".."
	}
	return s
}

func hexed(s string) string {
	if len(s) > 120 {
		return fmt.Sprintf("% x .. % x, %d bytes", s[:80], s[len(s)-30:], len(s))
	}
	return fmt.Sprintf("% x", s)
}

// told is which of api's errors an error is, by its number, and its Path; of nil nothing.
type told struct {
	code int
	path string
}

const (
	arg   = 1
	rep   = 4
	limit = 5
)

// tells is what an error tells; the code is -1, if it is none of api's or several, or tells an At, or no place where one is asked for.
func tells(err error) told {
	if err == nil {
		return told{}
	}
	out := told{}
	for i, e := range []error{api.ErrArg, api.ErrNil, api.ErrInput, api.ErrRep, api.ErrLimit, api.ErrNone, api.ErrBusy, api.ErrHandle, api.ErrKey, api.ErrStopped, api.ErrScript} {
		if errors.Is(err, e) && out.code != 0 {
			return told{code: -1}
		}
		if errors.Is(err, e) {
			out.code = i + 1
		}
	}
	var fault *api.Fault
	if !errors.As(err, &fault) {
		// Only of a document that is too long no place is told.
		if out.code == limit {
			return out
		}
		return told{code: -1}
	}
	if out.code == 0 || fault.At != 0 {
		return told{code: -1}
	}
	out.path = fault.Path
	return out
}

// inBytes is a number in so many bytes behind a first one.
func inBytes(first byte, wide int, n uint64) string {
	all := binary.BigEndian.AppendUint64(nil, n)
	return string([]byte{first}) + string(all[8-wide:])
}

// shortest is the least head, but for the type of an extension, of a kind with so many bytes, items or pairs.
func shortest(kind api.Kind, n int) string {
	size := uint64(n)
	switch {
	case kind == api.VText && n < 32:
		return string([]byte{0xa0 + byte(n)})
	case kind == api.VList && n < 16:
		return string([]byte{0x90 + byte(n)})
	case kind == api.VMap && n < 16:
		return string([]byte{0x80 + byte(n)})
	case kind == api.VExt && n == 1:
		return "\xd4"
	case kind == api.VExt && n == 2:
		return "\xd5"
	case kind == api.VExt && n == 4:
		return "\xd6"
	case kind == api.VExt && n == 8:
		return "\xd7"
	case kind == api.VExt && n == 16:
		return "\xd8"
	}
	// The first bytes with 1, 2 and 4 bytes behind them.
	first := map[api.Kind]string{api.VText: "\xd9\xda\xdb", api.VBytes: "\xc4\xc5\xc6", api.VExt: "\xc7\xc8\xc9", api.VList: "\x00\xdc\xdd", api.VMap: "\x00\xde\xdf"}[kind]
	switch {
	case n < 256 && first[0] > 0:
		return inBytes(first[0], 1, size)
	case n < 65536:
		return inBytes(first[1], 2, size)
	}
	return inBytes(first[2], 4, size)
}

// counted is a string of bytes behind its head.
func counted(kind api.Kind, s string) string { return shortest(kind, len(s)) + s }

// narrowest is a float in the least width that has it.
func narrowest(f float64) string {
	if math.IsNaN(f) {
		return "\xca\x7f\xc0\x00\x00"
	}
	if float64(float32(f)) == f {
		return inBytes(0xca, 4, uint64(math.Float32bits(float32(f))))
	}
	return inBytes(0xcb, 8, math.Float64bits(f))
}

// inWidths: is a whole number in one of the families for them?
func inWidths(n *big.Int) bool { return n.IsInt64() || n.IsUint64() }

// exact is the float that a whole number is, if there is one.
func exact(n *big.Int) (float64, bool) {
	f, _ := new(big.Float).SetInt(n).Float64()
	return f, !math.IsInf(f, 0) && same(numberOf(f), wholeOf(n))
}

func integer(n *big.Int) string {
	if !inWidths(n) {
		f, _ := exact(n)
		return narrowest(f)
	}
	if n.Sign() >= 0 {
		x := n.Uint64()
		switch {
		case x <= 127:
			return string([]byte{byte(x)})
		case x <= 0xff:
			return inBytes(0xcc, 1, x)
		case x <= 0xffff:
			return inBytes(0xcd, 2, x)
		case x <= 0xffffffff:
			return inBytes(0xce, 4, x)
		}
		return inBytes(0xcf, 8, x)
	}
	x := n.Int64()
	switch {
	case x >= -32:
		return string([]byte{byte(256 + x)})
	case x >= -128:
		return inBytes(0xd0, 1, uint64(x))
	case x >= -32768:
		return inBytes(0xd1, 2, uint64(x))
	case x >= -2147483648:
		return inBytes(0xd2, 4, uint64(x))
	}
	return inBytes(0xd3, 8, uint64(x))
}

// document is the canonical one of a value in MessagePack, in the chapter's words.
func document(v api.Value) string {
	switch v.Kind {
	case api.VNull:
		return "\xc0"
	case api.VBool:
		return string([]byte{0xc2 + byte(v.N)})
	case api.VInt:
		return integer(bigOf(v))
	case api.VFloat:
		return narrowest(math.Float64frombits(v.Bits))
	case api.VText, api.VBytes:
		return counted(v.Kind, v.Text)
	case api.VExt:
		return shortest(v.Kind, len(v.Text)) + string([]byte{byte(v.Ext)}) + v.Text
	case api.VList:
		return shortest(v.Kind, len(v.Kids)) + strings.Join(documents(v.Kids), "")
	}
	return shortest(api.VMap, len(v.Kids)/2) + strings.Join(rising(documents(v.Kids)), "")
}

func documents(l []api.Value) (out []string) {
	for _, v := range l {
		out = append(out, document(v))
	}
	return out
}

// rising puts keys and values, in turn, in the order of the keys.
func rising(l []string) []string {
	pairs := slices.Collect(slices.Chunk(l, 2))
	slices.SortFunc(pairs, func(a, b []string) int { return strings.Compare(a[0], b[0]) })
	return slices.Concat(pairs...)
}

// isPacks: is this node MessagePack's?
func isPacks(v api.Value) bool {
	if v.Kind == api.VInt {
		n := bigOf(v)
		_, isFloat := exact(n)
		return inWidths(n) || isFloat
	}
	return v.Kind != api.VTag && v.Kind != api.VSimple
}

// firstForeign is the Path of the first node that is not; false, if there is none.
func firstForeign(v api.Value, path string) (string, bool) {
	if !isPacks(v) {
		return path, true
	}
	for i, kid := range v.Kids {
		if at, ok := firstForeign(kid, path+"/"+strconv.Itoa(i)); ok {
			return at, true
		}
	}
	return "", false
}

// wants is what the chapter asks for of any struct.
func wants(v api.Value) (string, told) {
	if err := value.Check(v); err != nil {
		return "", tells(err)
	}
	if path, ok := firstForeign(v, ""); ok {
		return "", told{rep, path}
	}
	s := document(v)
	if len(s) > 1048576 {
		return "", told{code: limit}
	}
	return s, told{}
}

// parser takes canonical items by their bytes alone: where one of its methods answers false, there is none.
type parser struct{ rest string }

func (p *parser) bytes(n uint64) (string, bool) {
	if n > uint64(len(p.rest)) {
		return "", false
	}
	s := p.rest[:n]
	p.rest = p.rest[n:]
	return s, true
}

// number takes one in so many bytes, which must be above another one.
func (p *parser) number(bytes, above uint64) (uint64, bool) {
	s, ok := p.bytes(bytes)
	n := uint64(0)
	for _, b := range []byte(s) {
		n = n<<8 | uint64(b)
	}
	return n, ok && n > above
}

// row of what heads say how much comes: of which kind, in how many bytes, and above which number.
type row struct {
	kind         api.Kind
	bytes, above uint64
}

var rows = map[byte]row{
	0xd9: {api.VText, 1, 31}, 0xda: {api.VText, 2, 255}, 0xdb: {api.VText, 4, 65535},
	0xc5: {api.VBytes, 2, 255}, 0xc6: {api.VBytes, 4, 65535},
	0xdc: {api.VList, 2, 15}, 0xdd: {api.VList, 4, 65535},
	0xde: {api.VMap, 2, 15}, 0xdf: {api.VMap, 4, 65535},
	0xc8: {api.VExt, 2, 255}, 0xc9: {api.VExt, 4, 65535},
}

// item takes one within so many others, and tells its depth; the reference gives up where it would be nested without end.
func (p *parser) item(around int) (int, bool) {
	s, ok := p.bytes(1)
	if !ok || around > 1000 {
		return 0, false
	}
	first := s[0]
	switch {
	case first <= 0x7f, first >= 0xe0, first == 0xc0, first == 0xc2, first == 0xc3:
		return 0, true
	case first <= 0x8f:
		return p.pairs(around, uint64(first-0x80))
	case first <= 0x9f:
		return p.items(around, uint64(first-0x90))
	case first <= 0xbf:
		return p.many(around, api.VText, uint64(first-0xa0))
	case first == 0xca, first == 0xcb:
		return 0, p.float(first)
	case first >= 0xcc && first <= 0xd3:
		return 0, p.integer(first)
	case first >= 0xd4 && first <= 0xd8:
		return p.many(around, api.VExt, 1<<(first-0xd4))
	case first == 0xc4, first == 0xc7:
		// Nought is a length of these too.
		s, ok := p.bytes(1)
		if !ok {
			return 0, false
		}
		if first == 0xc4 {
			return p.many(around, api.VBytes, uint64(s[0]))
		}
		isSized := strings.Contains("\x01\x02\x04\x08\x10", s)
		depth, ok := p.many(around, api.VExt, uint64(s[0]))
		return depth, ok && !isSized
	}
	r, ok := rows[first]
	if !ok {
		return 0, false
	}
	n, ok := p.number(r.bytes, r.above)
	if !ok {
		return 0, false
	}
	return p.many(around, r.kind, n)
}

// many takes what stands behind a head: so many bytes, items or pairs.
func (p *parser) many(around int, kind api.Kind, n uint64) (int, bool) {
	switch kind {
	case api.VList:
		return p.items(around, n)
	case api.VMap:
		return p.pairs(around, n)
	case api.VExt:
		n++
	}
	s, ok := p.bytes(n)
	return 0, ok && (kind != api.VText || utf8.ValidString(s))
}

// integer takes what stands behind cc to d3.
func (p *parser) integer(first byte) bool {
	switch first {
	case 0xcc:
		_, ok := p.number(1, 0x7f)
		return ok
	case 0xcd:
		_, ok := p.number(2, 0xff)
		return ok
	case 0xce:
		_, ok := p.number(4, 0xffff)
		return ok
	case 0xcf:
		_, ok := p.number(8, 0xffffffff)
		return ok
	}
	n, ok := p.number(1<<(first-0xd0), 0)
	switch first {
	case 0xd0:
		return ok && int8(n) < -32
	case 0xd1:
		return ok && int16(n) < -128
	case 0xd2:
		return ok && int32(n) < -32768
	}
	return ok && int64(n) < -2147483648
}

// float takes what stands behind ca or cb.
func (p *parser) float(first byte) bool {
	outside := func(f float64) bool {
		return !math.IsInf(f, 0) && !math.IsNaN(f) && (f != math.Trunc(f) || f < -math.Ldexp(1, 63) || f >= math.Ldexp(1, 64))
	}
	if first == 0xca {
		s, ok := p.bytes(4)
		if !ok {
			return false
		}
		bits := binary.BigEndian.Uint32([]byte(s))
		return bits == 0x7fc00000 || bits == 0x7f800000 || bits == 0xff800000 || outside(float64(math.Float32frombits(bits)))
	}
	s, ok := p.bytes(8)
	if !ok {
		return false
	}
	f := math.Float64frombits(binary.BigEndian.Uint64([]byte(s)))
	return outside(f) && float64(float32(f)) != f
}

// items takes so many of a container, and tells its depth.
func (p *parser) items(around int, n uint64) (int, bool) {
	depth := 1
	for range n {
		d, ok := p.item(around + 1)
		if !ok {
			return 0, false
		}
		depth = max(depth, d+1)
	}
	return depth, true
}

func (p *parser) pairs(around int, n uint64) (int, bool) {
	depth, ahead := 1, ""
	for i := range n {
		from := p.rest
		key, ok := p.items(around, 1)
		if !ok {
			return 0, false
		}
		bytes := from[:len(from)-len(p.rest)]
		if i > 0 && bytes <= ahead {
			return 0, false
		}
		ahead = bytes
		behind, ok := p.items(around, 1)
		if !ok {
			return 0, false
		}
		depth = max(depth, key, behind)
	}
	return depth, true
}

// depthOf is the depth of a canonical item; false, if the string is none.
func depthOf(s string) (int, bool) {
	p := &parser{s}
	depth, ok := p.item(0)
	return depth, ok && p.rest == ""
}

// isCanonical is Canon in the chapter's words.
func isCanonical(s string) bool {
	depth, ok := depthOf(s)
	return ok && len(s) <= 1048576 && depth <= 128
}

// answers: what is written is this, or what is told is this beside an empty string.
func answers(t *testing.T, v api.Value, want string, e told) {
	t.Helper()
	s, err := packwrite.Write(v)
	if s != want || tells(err) != e {
		t.Errorf("Write(%s) = %s, %v, want %s, %v", show(v), hexed(s), err, hexed(want), e)
	}
}

func writes(t *testing.T, v api.Value, want string) {
	t.Helper()
	answers(t, v, want, told{})
	canon(t, want, true)
}

func fails(t *testing.T, v api.Value, code int, path string) {
	t.Helper()
	answers(t, v, "", told{code, path})
}

func sameAsReference(t *testing.T, v api.Value) {
	t.Helper()
	s, e := wants(v)
	answers(t, v, s, e)
}

// canon: Canon of the string is this, and so it is of the reference.
func canon(t *testing.T, s string, want bool) {
	t.Helper()
	if got, reference := packwrite.Canon(s), isCanonical(s); got != want || reference != want {
		t.Errorf("Canon(%s) = %v, of the reference %v, want %v", hexed(s), got, reference, want)
	}
}

// The reference itself, held against what is known.
func TestReference(t *testing.T) {
	for _, c := range []struct {
		v    api.Value
		want string
	}{
		{null, "c0"}, {yes, "c3"}, {num(128), "cc 80"}, {num(-33), "d0 df"}, {num(-129), "d1 ff 7f"}, {num(65536), "ce 00 01 00 00"}, {whole("18446744073709551616"), "ca 5f 80 00 00"}, {whole("-9223372036854777856"), "cb c3 e0 00 00 00 00 00 01"},
		{float(half3), "ca 3f c0 00 00"}, {float(0x3fb999999999999a), "cb 3f b9 99 99 99 99 99 9a"}, {float(noNumber), "ca 7f c0 00 00"}, {float(minus), "ca ff 80 00 00"},
		{object(text("aa"), num(1), text("b"), num(2)), "82 a1 62 02 a2 61 61 01"}, {list(raw("\x01\x02"), list()), "92 c4 02 01 02 90"}, {ext(5, "abc"), "c7 03 05 61 62 63"}, {ext(-1, "\x00"), "d4 ff 00"}, {ext(7, ""), "c7 00 07"},
	} {
		if s, e := wants(c.v); s != of(c.want) || e != (told{}) || !isCanonical(s) {
			t.Errorf("the reference has %s, %v for %s", hexed(s), e, show(c.v))
		}
	}
	for _, c := range []struct {
		v    api.Value
		want told
	}{
		{tag(1, num(0)), told{rep, ""}}, {list(num(1), object(text("a"), simple(0))), told{rep, "/1/1"}}, {whole("18446744073709551617"), told{rep, ""}}, {none, told{arg, ""}}, {raw(strings.Repeat("a", 1048572)), told{limit, ""}}, {deep(129), told{limit, strings.Repeat("/0", 128)}},
	} {
		if s, e := wants(c.v); s != "" || e != c.want {
			t.Errorf("the reference has %s, %v for %s", hexed(s), e, show(c.v))
		}
	}
	for s, want := range map[string]int{"00": 0, "90": 1, "80": 1, "91 00": 1, "82 01 91 00 02 92 90 91 80": 4, "81 91 90 00": 3, "c4 00": 0} {
		if d, ok := depthOf(of(s)); !ok || d != want {
			t.Errorf("the reference has the depth %d, %v for %s", d, ok, s)
		}
	}
	for _, s := range []string{"", "00 00", "cc 7f", "cc", "92 01", "c1", "d0 e0", "d0 01", "cd 00 ff", "d1 ff 80", "cb 3f f8 00 00 00 00 00 00", "ca 3f 80 00 00", "ca 80 00 00 00", "ca 7f c0 00 01", "ca df 00 00 00", "82 01 02 01 03", "82 a1 62 01 a1 61 02", "d9 01 61", "dc 00 00", "de 00 00", "c7 01 ff 00", "c5 00 00", "a1 ff", "d4 ff"} {
		if isCanonical(of(s)) {
			t.Errorf("the reference takes %s", s)
		}
	}
}
