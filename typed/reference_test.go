package typed_test

import (
	"encoding/binary"
	"encoding/hex"
	"errors"
	"fmt"
	"math"
	"math/big"
	"slices"
	"strconv"
	"strings"
	"testing"

	"crucible/api"
	"crucible/typed"
	"crucible/value"
)

const (
	plus     = 0x7ff0000000000000
	minus    = 0xfff0000000000000
	noNumber = 0x7ff8000000000000
	half3    = 0x3ff8000000000000 // 1.5
)

var (
	null = api.Value{Kind: api.VNull}
	no   = api.Value{Kind: api.VBool}
	yes  = api.Value{Kind: api.VBool, N: 1}
	none = api.Value{}
)

func text(s string) api.Value         { return api.Value{Kind: api.VText, Text: s} }
func raw(s string) api.Value          { return api.Value{Kind: api.VBytes, Text: s} }
func float(bits uint64) api.Value     { return api.Value{Kind: api.VFloat, Bits: bits} }
func simple(n uint64) api.Value       { return api.Value{Kind: api.VSimple, N: n} }
func list(l ...api.Value) api.Value   { return api.Value{Kind: api.VList, Kids: l} }
func object(l ...api.Value) api.Value { return api.Value{Kind: api.VMap, Kids: l} }

func tag(n uint64, v api.Value) api.Value {
	return api.Value{Kind: api.VTag, N: n, Kids: []api.Value{v}}
}

func ext(kind int8, bytes string) api.Value {
	return api.Value{Kind: api.VExt, Ext: kind, Text: bytes}
}

func limbs(neg bool, l ...uint32) api.Value {
	return api.Value{Kind: api.VInt, Int: api.Int{Neg: neg, Mag: l}}
}

// whole is a whole number by its decimal digits.
func whole(digits string) api.Value {
	n, ok := new(big.Int).SetString(digits, 10)
	if !ok {
		panic(digits)
	}
	return wholeOf(n)
}

func num(n int64) api.Value { return wholeOf(big.NewInt(n)) }

func wholeOf(n *big.Int) api.Value {
	bytes := new(big.Int).Abs(n).Bytes()
	bytes = append(make([]byte, -len(bytes)&3), bytes...)
	out := limbs(n.Sign() < 0)
	for i := len(bytes); i > 0; i -= 4 {
		out.Int.Mag = append(out.Int.Mag, binary.BigEndian.Uint32(bytes[i-4:]))
	}
	return out
}

// bigOf undoes wholeOf.
func bigOf(v api.Value) *big.Int {
	var bytes []byte
	for _, limb := range slices.Backward(v.Int.Mag) {
		bytes = binary.BigEndian.AppendUint32(bytes, limb)
	}
	out := new(big.Int).SetBytes(bytes)
	if v.Int.Neg {
		out.Neg(out)
	}
	return out
}

// numberOf is the value of a float of the language.
func numberOf(f float64) api.Value {
	switch {
	case math.IsNaN(f):
		return float(noNumber)
	case math.IsInf(f, 0) || f != math.Trunc(f):
		return float(math.Float64bits(f))
	}
	n, _ := big.NewFloat(f).Int(nil)
	return wholeOf(n)
}

// nested puts a value in n lists.
func nested(n int, v api.Value) api.Value {
	for range n {
		v = list(v)
	}
	return v
}

// deep is n lists in one another.
func deep(n int) api.Value { return nested(n-1, list()) }

func same(a, b api.Value) bool {
	return a.Kind == b.Kind && a.N == b.N && a.Int.Neg == b.Int.Neg && slices.Equal(a.Int.Mag, b.Int.Mag) && a.Bits == b.Bits && a.Ext == b.Ext && a.Text == b.Text && slices.EqualFunc(a.Kids, b.Kids, same)
}

// array is a tag over bytes, told by hexadecimal digits.
func array(n uint64, digits string) api.Value { return tag(n, raw(of(digits))) }

// of is bytes by hexadecimal digits, with blanks anywhere.
func of(digits string) string {
	out, err := hex.DecodeString(strings.ReplaceAll(digits, " ", ""))
	if err != nil {
		panic(digits)
	}
	return string(out)
}

func show(v api.Value) string {
	s := fmt.Sprintf("%+q", fmt.Sprintf("%+v", v))
	if len(s) > 300 {
		return s[:300] + ".."
	}
	return s
}

func hexed(s string) string {
	if len(s) > 120 {
		return fmt.Sprintf("% x .. % x, %d bytes", s[:80], s[len(s)-30:], len(s))
	}
	return fmt.Sprintf("% x", s)
}

// told is which of api's errors an error is, by its number, and its Path; of nil nothing.
type told struct {
	code int
	path string
}

const (
	arg   = 1
	rep   = 4
	limit = 5
)

// tells is what an error tells; the code is -1, if it is none of api's or several, or tells an At, or no place where one is asked for.
func tells(err error) told {
	if err == nil {
		return told{}
	}
	out := told{}
	for i, e := range []error{api.ErrArg, api.ErrNil, api.ErrInput, api.ErrRep, api.ErrLimit, api.ErrNone, api.ErrBusy, api.ErrHandle, api.ErrKey, api.ErrStopped, api.ErrScript} {
		if errors.Is(err, e) && out.code != 0 {
			return told{code: -1}
		}
		if errors.Is(err, e) {
			out.code = i + 1
		}
	}
	var fault *api.Fault
	if !errors.As(err, &fault) {
		// Only of a kind that may not be asked for no place is told.
		if out.code == arg {
			return out
		}
		return told{code: -1}
	}
	if out.code == 0 || fault.At != 0 {
		return told{code: -1}
	}
	out.path = fault.Path
	return out
}

// kind is a row of the chapter's table; its sort: without a sign, with one, of floats.
type kind struct {
	elem        api.Elem
	size        int
	tag, little uint64
	sort        byte
}

const (
	unsigned = 'u'
	signed   = 's'
	floating = 'f'
)

var kinds = []kind{
	{api.Uint8, 1, 64, 64, unsigned}, {api.Uint16, 2, 65, 69, unsigned}, {api.Uint32, 4, 66, 70, unsigned}, {api.Uint64, 8, 67, 71, unsigned},
	{api.Int8, 1, 72, 72, signed}, {api.Int16, 2, 73, 77, signed}, {api.Int32, 4, 74, 78, signed}, {api.Int64, 8, 75, 79, signed},
	{api.Float16, 2, 80, 84, floating}, {api.Float32, 4, 81, 85, floating}, {api.Float64, 8, 82, 86, floating},
}

// kindsOf are those of these sorts.
func kindsOf(sorts string) (out []kind) {
	for _, k := range kinds {
		if strings.IndexByte(sorts, k.sort) >= 0 {
			out = append(out, k)
		}
	}
	return out
}

// tagOf is the kind's tag.
func (k kind) tagOf(little bool) uint64 {
	if little {
		return k.little
	}
	return k.tag
}

// least and most are the edges of a kind of whole numbers.
func (k kind) least() *big.Int {
	if k.sort == unsigned {
		return new(big.Int)
	}
	n := new(big.Int).Lsh(big.NewInt(1), uint(8*k.size-1))
	return n.Neg(n)
}

func (k kind) most() *big.Int {
	width := uint(8 * k.size)
	if k.sort == signed {
		width--
	}
	n := new(big.Int).Lsh(big.NewInt(1), width)
	return n.Sub(n, big.NewInt(1))
}

// numeral is a number as it stands: a whole one, or a float of any kind.
type numeral struct {
	n *big.Int
	f float64
}

// turned has its bytes the other way round.
func turned(s string) string {
	b := []byte(s)
	slices.Reverse(b)
	return string(b)
}

// patternOf is the float of so many bytes, the highest first, in the words of the document.
func patternOf(bytes string) float64 {
	x := new(big.Int).SetBytes([]byte(bytes)).Uint64()
	fraction := map[int]int{2: 10, 4: 23, 8: 52}[len(bytes)]
	low := map[int]int{2: -24, 4: -149, 8: -1074}[len(bytes)]
	top := 8*len(bytes) - 1 - fraction
	f, e := x&(1<<fraction-1), int(x>>fraction)&(1<<top-1)
	out := 0.0
	switch {
	case e == 1<<top-1 && f != 0:
		return math.NaN()
	case e == 1<<top-1:
		out = math.Inf(1)
	case e == 0:
		out = math.Ldexp(float64(f), low)
	default:
		out = math.Ldexp(float64(f|1<<fraction), low+e-1)
	}
	if x>>(8*len(bytes)-1) == 1 {
		return -out
	}
	return out
}

// element is that of the bytes, the highest first.
func (k kind) element(bytes string) numeral {
	if k.sort == floating {
		return numeral{f: patternOf(bytes)}
	}
	n := new(big.Int).SetBytes([]byte(bytes))
	if k.sort == signed && bytes[0] >= 128 {
		n.Sub(n, new(big.Int).Lsh(big.NewInt(1), uint(8*k.size)))
	}
	return numeral{n: n}
}

// elements are those of a typed array; false, if the value is none.
func elements(v api.Value) (out []numeral, ok bool) {
	if v.Kind != api.VTag || v.Kids[0].Kind != api.VBytes {
		return nil, false
	}
	bytes := v.Kids[0].Text
	for _, k := range kinds {
		big, little := v.N == k.tag || v.N == 68 && k.elem == api.Uint8, v.N == k.little
		if !big && !little || len(bytes)%k.size != 0 {
			continue
		}
		for i := 0; i < len(bytes); i += k.size {
			one := bytes[i : i+k.size]
			if !big {
				one = turned(one)
			}
			out = append(out, k.element(one))
		}
		return out, true
	}
	return nil, false
}

// exact is the float that a whole number is, if there is one.
func exact(n *big.Int) (float64, bool) {
	f, _ := new(big.Float).SetInt(n).Float64()
	return f, !math.IsInf(f, 0) && same(numberOf(f), wholeOf(n))
}

// toInt is the number as an int64, if it is one.
func (x numeral) toInt() (int64, bool) {
	n := x.n
	if n == nil {
		if math.IsNaN(x.f) || math.IsInf(x.f, 0) || x.f != math.Trunc(x.f) {
			return 0, false
		}
		n, _ = big.NewFloat(x.f).Int(nil)
	}
	return n.Int64(), n.IsInt64()
}

// toBits is the number as a pattern of 64 bits, if it has one.
func (x numeral) toBits() (uint64, bool) {
	f, ok := x.f, true
	if x.n != nil {
		f, ok = exact(x.n)
	}
	return bitsOf(f), ok
}

// bitsOf is a float's pattern; of no number the one.
func bitsOf(f float64) uint64 {
	if math.IsNaN(f) {
		return noNumber
	}
	return math.Float64bits(f)
}

func (x numeral) plain() api.Value {
	if x.n != nil {
		return wholeOf(x.n)
	}
	return numberOf(x.f)
}

// numerals are the numbers of a typed array or a list, in a list nil for what is none; false, if the value is neither.
func numerals(v api.Value) (out []*numeral, ok bool) {
	if v.Kind == api.VList {
		for _, kid := range v.Kids {
			switch kid.Kind {
			case api.VInt:
				out = append(out, &numeral{n: bigOf(kid)})
			case api.VFloat:
				out = append(out, &numeral{f: math.Float64frombits(kid.Bits)})
			default:
				out = append(out, nil)
			}
		}
		return out, true
	}
	all, ok := elements(v)
	for _, x := range all {
		out = append(out, &x)
	}
	return out, ok
}

// read is what ToInts and ToFloats are to answer of a value that may be.
func read[T any](v api.Value, as func(numeral) (T, bool)) (out []T, e told) {
	all, ok := numerals(v)
	if !ok {
		return nil, told{rep, ""}
	}
	for i, x := range all {
		if x == nil {
			return nil, told{rep, "/" + strconv.Itoa(i)}
		}
		n, ok := as(*x)
		if !ok {
			return nil, told{rep, "/" + strconv.Itoa(i)}
		}
		out = append(out, n)
	}
	return out, told{}
}

// parts are the patterns of a complex number.
type parts struct{ re, im uint64 }

// readComplexes is what ToComplexes is to answer of a value that may be.
func readComplexes(v api.Value) (out []parts, e told) {
	if v.Kind != api.VList || len(v.Kids) != 2 {
		return nil, told{rep, ""}
	}
	re, e := read(v.Kids[0], numeral.toBits)
	if e != (told{}) {
		return nil, told{e.code, "/0" + e.path}
	}
	im, e := read(v.Kids[1], numeral.toBits)
	if e != (told{}) {
		return nil, told{e.code, "/1" + e.path}
	}
	if len(re) != len(im) {
		return nil, told{rep, "/1"}
	}
	for i := range re {
		out = append(out, parts{re[i], im[i]})
	}
	return out, told{}
}

// readPlain is what Plain is to answer of a value that may be.
func readPlain(v api.Value) (api.Value, told) {
	all, ok := elements(v)
	if !ok {
		return none, told{rep, ""}
	}
	out := list()
	for _, x := range all {
		out.Kids = append(out.Kids, x.plain())
	}
	return out, told{}
}

// answers are what is answered of one value, written down.
type answers struct{ ints, floats, complexes, plain string }

func noted[T any](x T, e told) string { return fmt.Sprintf("%+v, %v", x, e) }

// wants is what the chapter asks for of any struct.
func wants(v api.Value) answers {
	if err := value.Check(v); err != nil {
		e := tells(err)
		return answers{noted([]int64(nil), e), noted([]uint64(nil), e), noted([]parts(nil), e), noted(none, e)}
	}
	ints, e1 := read(v, numeral.toInt)
	floats, e2 := read(v, numeral.toBits)
	complexes, e3 := readComplexes(v)
	plain, e4 := readPlain(v)
	return answers{noted(ints, e1), noted(floats, e2), noted(complexes, e3), noted(plain, e4)}
}

// allBits are the patterns of floats.
func allBits(l []float64) (out []uint64) {
	for _, f := range l {
		out = append(out, bitsOf(f))
	}
	return out
}

// allParts are those of complex numbers.
func allParts(l []complex128) (out []parts) {
	for _, c := range l {
		out = append(out, parts{bitsOf(real(c)), bitsOf(imag(c))})
	}
	return out
}

// gets is what the program answers.
func gets(v api.Value) answers {
	ints, e1 := typed.ToInts(v)
	floats, e2 := typed.ToFloats(v)
	complexes, e3 := typed.ToComplexes(v)
	plain, e4 := typed.Plain(v)
	if len(plain.Kids) == 0 {
		plain.Kids = nil
	}
	return answers{noted(ints, tells(e1)), noted(allBits(floats), tells(e2)), noted(allParts(complexes), tells(e3)), noted(plain, tells(e4))}
}

// sameAsReference holds the four calls that take a value against the chapter's words.
func sameAsReference(t *testing.T, v api.Value) {
	t.Helper()
	if got, want := gets(v), wants(v); got != want {
		t.Errorf("of %s come %.600v, want %.600v", show(v), got, want)
	}
}

// made is what a list of numbers is made into: the bytes of each, the highest first, and a false of the first that the kind has not.
func (k kind) made(count int, little bool, bytes func(i int) (string, bool)) (api.Value, told) {
	out := ""
	for i := range count {
		one, ok := bytes(i)
		if !ok {
			return none, told{rep, "/" + strconv.Itoa(i)}
		}
		if little {
			one = turned(one)
		}
		out += one
	}
	return tag(k.tagOf(little), raw(out)), told{}
}

// bytesOf are those of a whole number; false, if the kind has it not.
func (k kind) bytesOf(n int64) (string, bool) {
	x := big.NewInt(n)
	if x.Cmp(k.least()) < 0 || x.Cmp(k.most()) > 0 {
		return "", false
	}
	if n < 0 {
		x.Add(x, new(big.Int).Lsh(big.NewInt(1), uint(8*k.size)))
	}
	return string(x.FillBytes(make([]byte, k.size))), true
}

// halves are the patterns of 16 bits by those of 64 that have the same number.
var halves = func() map[uint64]string {
	out := map[uint64]string{noNumber: "\x7e\x00"}
	for h := range 1 << 16 {
		bytes := string(binary.BigEndian.AppendUint16(nil, uint16(h)))
		if f := patternOf(bytes); f == f {
			out[bitsOf(f)] = bytes
		}
	}
	return out
}()

// bytesOfFloat are those of a float's pattern; false, if no pattern of the width has its number.
func (k kind) bytesOfFloat(f float64) (string, bool) {
	switch k.elem {
	case api.Float16:
		bytes, ok := halves[bitsOf(f)]
		return bytes, ok
	case api.Float32:
		if math.IsNaN(f) {
			return "\x7f\xc0\x00\x00", true
		}
		return string(binary.BigEndian.AppendUint32(nil, math.Float32bits(float32(f)))), float64(float32(f)) == f
	}
	return string(binary.BigEndian.AppendUint64(nil, bitsOf(f))), true
}

// wantInts, wantFloats are what the chapter asks for, wantComplexes too.
func wantInts(l []int64, e api.Elem, little bool) (api.Value, told) {
	for _, k := range kindsOf("us") {
		if k.elem == e {
			return k.made(len(l), little, func(i int) (string, bool) { return k.bytesOf(l[i]) })
		}
	}
	return none, told{arg, ""}
}

func wantFloats(l []float64, e api.Elem, little bool) (api.Value, told) {
	for _, k := range kindsOf("f") {
		if k.elem == e {
			return k.made(len(l), little, func(i int) (string, bool) { return k.bytesOfFloat(l[i]) })
		}
	}
	return none, told{arg, ""}
}

func wantComplexes(l []complex128) api.Value {
	re, im := "", ""
	for _, c := range l {
		re += string(binary.BigEndian.AppendUint64(nil, bitsOf(real(c))))
		im += string(binary.BigEndian.AppendUint64(nil, bitsOf(imag(c))))
	}
	return list(tag(82, raw(re)), tag(82, raw(im)))
}

// checkInts holds Ints against the chapter's words, in both orders of bytes.
func checkInts(t *testing.T, l []int64, e api.Elem) {
	t.Helper()
	for _, little := range []bool{false, true} {
		v, err := typed.Ints(l, e, little)
		if want, fails := wantInts(l, e, little); !same(v, want) || tells(err) != fails {
			t.Errorf("Ints(%.300v, %d, %v) = %s, %v, want %s, %v", l, e, little, show(v), err, show(want), fails)
		}
	}
}

func checkFloats(t *testing.T, l []float64, e api.Elem) {
	t.Helper()
	for _, little := range []bool{false, true} {
		v, err := typed.Floats(l, e, little)
		if want, fails := wantFloats(l, e, little); !same(v, want) || tells(err) != fails {
			t.Errorf("Floats(%.300v, %d, %v) = %s, %v, want %s, %v", l, e, little, show(v), err, show(want), fails)
		}
	}
}

func checkComplexes(t *testing.T, l []complex128) {
	t.Helper()
	if v, want := typed.Complexes(l), wantComplexes(l); !same(v, want) {
		t.Errorf("Complexes(%.300v) = %s, want %s", l, show(v), show(want))
	}
}
