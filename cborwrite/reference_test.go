package cborwrite_test

import (
	"encoding/binary"
	"encoding/hex"
	"errors"
	"fmt"
	"math"
	"math/big"
	"slices"
	"strconv"
	"strings"
	"testing"
	"unicode/utf8"

	"crucible/api"
	"crucible/cborwrite"
	"crucible/value"
)

const (
	plus     = 0x7ff0000000000000
	minus    = 0xfff0000000000000
	noNumber = 0x7ff8000000000000
	half3    = 0x3ff8000000000000 // 1.5
)

var (
	null = api.Value{Kind: api.VNull}
	no   = api.Value{Kind: api.VBool}
	yes  = api.Value{Kind: api.VBool, N: 1}
	none = api.Value{}
)

func text(s string) api.Value         { return api.Value{Kind: api.VText, Text: s} }
func raw(s string) api.Value          { return api.Value{Kind: api.VBytes, Text: s} }
func float(bits uint64) api.Value     { return api.Value{Kind: api.VFloat, Bits: bits} }
func simple(n uint64) api.Value       { return api.Value{Kind: api.VSimple, N: n} }
func list(l ...api.Value) api.Value   { return api.Value{Kind: api.VList, Kids: l} }
func object(l ...api.Value) api.Value { return api.Value{Kind: api.VMap, Kids: l} }

func tag(n uint64, v api.Value) api.Value {
	return api.Value{Kind: api.VTag, N: n, Kids: []api.Value{v}}
}

func ext(kind int8, bytes string) api.Value {
	return api.Value{Kind: api.VExt, Ext: kind, Text: bytes}
}

func limbs(neg bool, l ...uint32) api.Value {
	return api.Value{Kind: api.VInt, Int: api.Int{Neg: neg, Mag: l}}
}

// whole is a whole number by its decimal digits.
func whole(digits string) api.Value {
	n, ok := new(big.Int).SetString(digits, 10)
	if !ok {
		panic(digits)
	}
	return wholeOf(n)
}

func num(n int64) api.Value { return wholeOf(big.NewInt(n)) }

func wholeOf(n *big.Int) api.Value {
	bytes := new(big.Int).Abs(n).Bytes()
	bytes = append(make([]byte, -len(bytes)&3), bytes...)
	out := limbs(n.Sign() < 0)
	for i := len(bytes); i > 0; i -= 4 {
		out.Int.Mag = append(out.Int.Mag, binary.BigEndian.Uint32(bytes[i-4:]))
	}
	return out
}

// bigOf undoes wholeOf.
func bigOf(v api.Value) *big.Int {
	var bytes []byte
	for _, limb := range slices.Backward(v.Int.Mag) {
		bytes = binary.BigEndian.AppendUint32(bytes, limb)
	}
	out := new(big.Int).SetBytes(bytes)
	if v.Int.Neg {
		out.Neg(out)
	}
	return out
}

// numberOf is the value of a float of the language.
func numberOf(f float64) api.Value {
	switch {
	case math.IsNaN(f):
		return float(noNumber)
	case math.IsInf(f, 0) || f != math.Trunc(f):
		return float(math.Float64bits(f))
	}
	n, _ := big.NewFloat(f).Int(nil)
	return wholeOf(n)
}

// half is the number of a pattern of 16 bits, by the document's words.
func half(bits uint16) float64 {
	fraction, exponent := float64(bits&1023), int(bits>>10&31)
	out := math.Ldexp(fraction+1024, exponent-25)
	switch {
	case exponent == 31 && fraction == 0:
		out = math.Inf(1)
	case exponent == 31:
		return math.NaN()
	case exponent == 0:
		out = math.Ldexp(fraction, -24)
	}
	if bits>>15 == 1 {
		return -out
	}
	return out
}

// halves are the patterns of 16 bits by the numbers that they are, but for those that are no number.
var halves = func() map[float64]uint16 {
	out := map[float64]uint16{}
	for bits := range 65536 {
		out[half(uint16(bits))] = uint16(bits)
	}
	return out
}()

// nested puts a value in n lists.
func nested(n int, v api.Value) api.Value {
	for range n {
		v = list(v)
	}
	return v
}

// deep is n lists in one another.
func deep(n int) api.Value { return nested(n-1, list()) }

func same(a, b api.Value) bool {
	return a.Kind == b.Kind && a.N == b.N && a.Int.Neg == b.Int.Neg && slices.Equal(a.Int.Mag, b.Int.Mag) && a.Bits == b.Bits && a.Ext == b.Ext && a.Text == b.Text && slices.EqualFunc(a.Kids, b.Kids, same)
}

// of is bytes by hexadecimal digits, with blanks anywhere.
func of(digits string) string {
	out, err := hex.DecodeString(strings.ReplaceAll(digits, " ", ""))
	if err != nil {
		panic(digits)
	}
	return string(out)
}

func show(v api.Value) string {
	s := fmt.Sprintf("%+q", fmt.Sprintf("%+v", v))
	if len(s) > 300 {
		return s[:300] + ".."
	}
	return s
}

func hexed(s string) string {
	if len(s) > 120 {
		return fmt.Sprintf("% x .. % x, %d bytes", s[:80], s[len(s)-30:], len(s))
	}
	return fmt.Sprintf("% x", s)
}

// told is which of api's errors an error is, by its number, and its Path; of nil nothing.
type told struct {
	code int
	path string
}

const (
	arg   = 1
	rep   = 4
	limit = 5
)

// tells is what an error tells; the code is -1, if it is none of api's or several, or tells an At, or no place where one is asked for.
func tells(err error) told {
	if err == nil {
		return told{}
	}
	out := told{}
	for i, e := range []error{api.ErrArg, api.ErrNil, api.ErrInput, api.ErrRep, api.ErrLimit, api.ErrNone, api.ErrBusy, api.ErrHandle, api.ErrKey, api.ErrStopped, api.ErrScript} {
		if errors.Is(err, e) && out.code != 0 {
			return told{code: -1}
		}
		if errors.Is(err, e) {
			out.code = i + 1
		}
	}
	var fault *api.Fault
	if !errors.As(err, &fault) {
		// Only of a document that is too long no place is told.
		if out.code == limit {
			return out
		}
		return told{code: -1}
	}
	if out.code == 0 || fault.At != 0 {
		return told{code: -1}
	}
	out.path = fault.Path
	return out
}

// shortest is the shortest head.
func shortest(major byte, arg uint64) string {
	first := major << 5
	switch {
	case arg < 24:
		return string([]byte{first + byte(arg)})
	case arg < 1<<8:
		return string([]byte{first + 24, byte(arg)})
	case arg < 1<<16:
		return string(binary.BigEndian.AppendUint16([]byte{first + 25}, uint16(arg)))
	case arg < 1<<32:
		return string(binary.BigEndian.AppendUint32([]byte{first + 26}, uint32(arg)))
	}
	return string(binary.BigEndian.AppendUint64([]byte{first + 27}, arg))
}

func counted(major byte, s string) string { return shortest(major, uint64(len(s))) + s }

// narrowest is the head of a float in its narrowest width.
func narrowest(f float64) string {
	if math.IsNaN(f) {
		return "\xf9\x7e\x00"
	}
	if bits, ok := halves[f]; ok {
		return string(binary.BigEndian.AppendUint16([]byte{0xf9}, bits))
	}
	if float64(float32(f)) == f {
		return string(binary.BigEndian.AppendUint32([]byte{0xfa}, math.Float32bits(float32(f))))
	}
	return string(binary.BigEndian.AppendUint64([]byte{0xfb}, math.Float64bits(f)))
}

func integer(n *big.Int) string {
	major, size := byte(0), n
	if n.Sign() < 0 {
		major, size = 1, new(big.Int).Sub(big.NewInt(-1), n)
	}
	if size.IsUint64() {
		return shortest(major, size.Uint64())
	}
	return string([]byte{0xc2 + major}) + counted(2, string(size.Bytes()))
}

// document is the canonical one of a value in CBOR, in the chapter's words.
func document(v api.Value) string {
	switch v.Kind {
	case api.VNull:
		return "\xf6"
	case api.VBool:
		return string([]byte{0xf4 + byte(v.N)})
	case api.VInt:
		return integer(bigOf(v))
	case api.VFloat:
		return narrowest(math.Float64frombits(v.Bits))
	case api.VText:
		return counted(3, v.Text)
	case api.VBytes:
		return counted(2, v.Text)
	case api.VList:
		return shortest(4, uint64(len(v.Kids))) + strings.Join(documents(v.Kids), "")
	case api.VMap:
		return shortest(5, uint64(len(v.Kids)/2)) + strings.Join(rising(documents(v.Kids)), "")
	case api.VTag:
		return shortest(6, v.N) + document(v.Kids[0])
	}
	return shortest(7, v.N)
}

func documents(l []api.Value) (out []string) {
	for _, v := range l {
		out = append(out, document(v))
	}
	return out
}

// rising puts keys and values, in turn, in the order of the keys.
func rising(l []string) []string {
	pairs := slices.Collect(slices.Chunk(l, 2))
	slices.SortFunc(pairs, func(a, b []string) int { return strings.Compare(a[0], b[0]) })
	return slices.Concat(pairs...)
}

// firstExtension is the Path of the first one; false, if there is none.
func firstExtension(v api.Value, path string) (string, bool) {
	if v.Kind == api.VExt {
		return path, true
	}
	for i, kid := range v.Kids {
		if at, ok := firstExtension(kid, path+"/"+strconv.Itoa(i)); ok {
			return at, true
		}
	}
	return "", false
}

// wants is what the chapter asks for of any struct.
func wants(v api.Value) (string, told) {
	if err := value.Check(v); err != nil {
		return "", tells(err)
	}
	if path, ok := firstExtension(v, ""); ok {
		return "", told{rep, path}
	}
	s := document(v)
	if len(s) > 1048576 {
		return "", told{code: limit}
	}
	return s, told{}
}

// parser takes canonical items by their bytes alone: where one of its methods answers false, there is none.
type parser struct{ rest string }

func (p *parser) bytes(n uint64) (string, bool) {
	if n > uint64(len(p.rest)) {
		return "", false
	}
	s := p.rest[:n]
	p.rest = p.rest[n:]
	return s, true
}

// head takes a head with its argument told, as short as it may be; of the major type 7 as it stands.
func (p *parser) head() (major, info byte, arg uint64, ok bool) {
	first, ok := p.bytes(1)
	if !ok {
		return 0, 0, 0, false
	}
	major, info = first[0]>>5, first[0]&31
	if info < 24 {
		return major, info, uint64(info), true
	}
	size, ok := map[byte]uint64{24: 1, 25: 2, 26: 4, 27: 8}[info]
	if !ok {
		return 0, 0, 0, false
	}
	bytes, ok := p.bytes(size)
	for _, b := range []byte(bytes) {
		arg = arg<<8 | uint64(b)
	}
	least := map[byte]uint64{24: 24, 25: 1 << 8, 26: 1 << 16, 27: 1 << 32}[info]
	return major, info, arg, ok && (major == 7 || arg >= least)
}

// seventh: is this an item of the major type 7?
func seventh(info byte, arg uint64) bool {
	isFloat := func(f float64) bool { return !math.IsInf(f, 0) && !math.IsNaN(f) && f != math.Trunc(f) }
	switch info {
	case 24:
		return arg >= 32
	case 25:
		return arg == 0x7e00 || arg == 0x7c00 || arg == 0xfc00 || isFloat(half(uint16(arg)))
	case 26:
		f := float64(math.Float32frombits(uint32(arg)))
		_, narrower := halves[f]
		return isFloat(f) && !narrower
	case 27:
		f := math.Float64frombits(arg)
		_, narrower := halves[f]
		return isFloat(f) && !narrower && float64(float32(f)) != f
	}
	return true
}

// great takes the bytes behind c2 or c3.
func (p *parser) great() bool {
	major, _, n, ok := p.head()
	if !ok || major != 2 || n <= 8 {
		return false
	}
	s, ok := p.bytes(n)
	return ok && s[0] != 0
}

// item takes one within so many others, and tells its depth; the reference gives up where it would be nested without end.
func (p *parser) item(around int) (int, bool) {
	major, info, arg, ok := p.head()
	if !ok || around > 1000 {
		return 0, false
	}
	switch major {
	case 2, 3:
		s, ok := p.bytes(arg)
		return 0, ok && (major == 2 || utf8.ValidString(s))
	case 4:
		return p.items(around, arg)
	case 5:
		return p.pairs(around, arg)
	case 6:
		if arg == 2 || arg == 3 {
			return 0, p.great()
		}
		return p.items(around, 1)
	case 7:
		return 0, seventh(info, arg)
	}
	return 0, true
}

// items takes so many of a container, and tells its depth.
func (p *parser) items(around int, n uint64) (int, bool) {
	depth := 1
	for range n {
		d, ok := p.item(around + 1)
		if !ok {
			return 0, false
		}
		depth = max(depth, d+1)
	}
	return depth, true
}

func (p *parser) pairs(around int, n uint64) (int, bool) {
	depth, ahead := 1, ""
	for i := range n {
		from := p.rest
		key, ok := p.items(around, 1)
		if !ok {
			return 0, false
		}
		bytes := from[:len(from)-len(p.rest)]
		if i > 0 && bytes <= ahead {
			return 0, false
		}
		ahead = bytes
		behind, ok := p.items(around, 1)
		if !ok {
			return 0, false
		}
		depth = max(depth, key, behind)
	}
	return depth, true
}

// depthOf is the depth of a canonical item; false, if the string is none.
func depthOf(s string) (int, bool) {
	p := &parser{s}
	depth, ok := p.item(0)
	return depth, ok && p.rest == ""
}

// isCanonical is Canon in the chapter's words.
func isCanonical(s string) bool {
	depth, ok := depthOf(s)
	return ok && len(s) <= 1048576 && depth <= 128
}

// answers: what is written is this, or what is told is this beside an empty string.
func answers(t *testing.T, v api.Value, want string, e told) {
	t.Helper()
	s, err := cborwrite.Write(v)
	if s != want || tells(err) != e {
		t.Errorf("Write(%s) = %s, %v, want %s, %v", show(v), hexed(s), err, hexed(want), e)
	}
}

func writes(t *testing.T, v api.Value, want string) {
	t.Helper()
	answers(t, v, want, told{})
	canon(t, want, true)
}

func fails(t *testing.T, v api.Value, code int, path string) {
	t.Helper()
	answers(t, v, "", told{code, path})
}

func sameAsReference(t *testing.T, v api.Value) {
	t.Helper()
	s, e := wants(v)
	answers(t, v, s, e)
}

// canon: Canon of the string is this, and so it is of the reference.
func canon(t *testing.T, s string, want bool) {
	t.Helper()
	if got, reference := cborwrite.Canon(s), isCanonical(s); got != want || reference != want {
		t.Errorf("Canon(%s) = %v, of the reference %v, want %v", hexed(s), got, reference, want)
	}
}

// The reference itself, held against what is known.
func TestReference(t *testing.T) {
	for _, c := range []struct {
		v    api.Value
		want string
	}{
		{null, "f6"}, {yes, "f5"}, {simple(23), "f7"}, {simple(255), "f8 ff"}, {num(24), "18 18"}, {num(-25), "38 18"}, {whole("-18446744073709551616"), "3b ff ff ff ff ff ff ff ff"}, {whole("-18446744073709551617"), "c3 49 01 00 00 00 00 00 00 00 00"},
		{float(half3), "f9 3e 00"}, {float(0x3fb999999999999a), "fb 3f b9 99 99 99 99 99 9a"}, {float(noNumber), "f9 7e 00"}, {float(minus), "f9 fc 00"}, {float(0x3ff0000020000000), "fa 3f 80 00 01"},
		{object(text("aa"), num(1), text("b"), num(2)), "a2 61 62 02 62 61 61 01"}, {tag(32, text("a")), "d8 20 61 61"}, {list(raw("\x01\x02"), list()), "82 42 01 02 80"},
	} {
		if s, e := wants(c.v); s != of(c.want) || e != (told{}) || !isCanonical(s) {
			t.Errorf("the reference has %s, %v for %s", hexed(s), e, show(c.v))
		}
	}
	for _, c := range []struct {
		v    api.Value
		want told
	}{
		{ext(1, ""), told{rep, ""}}, {list(num(1), object(text("a"), ext(0, "\x00"))), told{rep, "/1/1"}}, {none, told{arg, ""}}, {raw(strings.Repeat("a", 1048572)), told{limit, ""}}, {deep(129), told{limit, strings.Repeat("/0", 128)}},
	} {
		if s, e := wants(c.v); s != "" || e != c.want {
			t.Errorf("the reference has %s, %v for %s", hexed(s), e, show(c.v))
		}
	}
	for s, want := range map[string]int{"00": 0, "80": 1, "a0": 1, "c1 00": 1, "a2 01 81 00 02 82 80 c1 a0": 4, "a1 81 80 00": 3, "c2 49 01 00 00 00 00 00 00 00 00": 0} {
		if d, ok := depthOf(of(s)); !ok || d != want {
			t.Errorf("the reference has the depth %d, %v for %s", d, ok, s)
		}
	}
	for _, s := range []string{"", "00 00", "18 17", "18", "82 01", "1c", "ff", "9f ff", "fa 3f c0 00 00", "f9 3c 00", "f9 80 00", "f9 7e 01", "fa 7f c0 00 00", "c2 01", "c2 41 05", "c2 4a 00 01 00 00 00 00 00 00 00 00", "a2 01 02 01 03", "a2 61 62 01 61 61 02", "f8 18", "61 ff", "c2"} {
		if isCanonical(of(s)) {
			t.Errorf("the reference takes %s", s)
		}
	}
}
