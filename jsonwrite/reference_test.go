package jsonwrite_test

import (
	"encoding/binary"
	"errors"
	"fmt"
	"math"
	"math/big"
	"slices"
	"strconv"
	"strings"
	"testing"
	"unicode/utf16"
	"unicode/utf8"

	"crucible/api"
	"crucible/jsonwrite"
	"crucible/value"
)

const (
	plus     = 0x7ff0000000000000
	minus    = 0xfff0000000000000
	noNumber = 0x7ff8000000000000
	half3    = 0x3ff8000000000000 // 1.5
)

var (
	null = api.Value{Kind: api.VNull}
	no   = api.Value{Kind: api.VBool}
	yes  = api.Value{Kind: api.VBool, N: 1}
	none = api.Value{}
)

func text(s string) api.Value         { return api.Value{Kind: api.VText, Text: s} }
func raw(s string) api.Value          { return api.Value{Kind: api.VBytes, Text: s} }
func float(bits uint64) api.Value     { return api.Value{Kind: api.VFloat, Bits: bits} }
func list(l ...api.Value) api.Value   { return api.Value{Kind: api.VList, Kids: l} }
func object(l ...api.Value) api.Value { return api.Value{Kind: api.VMap, Kids: l} }
func tag(n uint64, v api.Value) api.Value {
	return api.Value{Kind: api.VTag, N: n, Kids: []api.Value{v}}
}
func simple(n uint64) api.Value             { return api.Value{Kind: api.VSimple, N: n} }
func ext(kind int8, bytes string) api.Value { return api.Value{Kind: api.VExt, Ext: kind, Text: bytes} }

func limbs(neg bool, l ...uint32) api.Value {
	return api.Value{Kind: api.VInt, Int: api.Int{Neg: neg, Mag: l}}
}

// whole is a whole number by its decimal digits.
func whole(digits string) api.Value {
	n, ok := new(big.Int).SetString(digits, 10)
	if !ok {
		panic(digits)
	}
	return wholeOf(n)
}

func num(n int64) api.Value { return wholeOf(big.NewInt(n)) }

func wholeOf(n *big.Int) api.Value {
	out := limbs(n.Sign() < 0)
	limb := big.NewInt(math.MaxUint32)
	for m := new(big.Int).Abs(n); m.Sign() > 0; m.Rsh(m, 32) {
		out.Int.Mag = append(out.Int.Mag, uint32(new(big.Int).And(m, limb).Uint64()))
	}
	return out
}

func bigOf(x api.Int) *big.Int {
	var bytes []byte
	for _, l := range slices.Backward(x.Mag) {
		bytes = binary.BigEndian.AppendUint32(bytes, l)
	}
	out := new(big.Int).SetBytes(bytes)
	if x.Neg {
		out.Neg(out)
	}
	return out
}

// numberOf is the value of a float that is finite.
func numberOf(f float64) api.Value {
	if f != math.Trunc(f) {
		return float(math.Float64bits(f))
	}
	n, _ := big.NewFloat(f).Int(nil)
	return wholeOf(n)
}

// nested puts a value in n lists.
func nested(n int, v api.Value) api.Value {
	for range n {
		v = list(v)
	}
	return v
}

// deep is n lists in one another.
func deep(n int) api.Value { return nested(n-1, list()) }

func same(a, b api.Value) bool {
	return a.Kind == b.Kind && a.N == b.N && a.Int.Neg == b.Int.Neg && slices.Equal(a.Int.Mag, b.Int.Mag) && a.Bits == b.Bits && a.Ext == b.Ext && a.Text == b.Text && slices.EqualFunc(a.Kids, b.Kids, same)
}

// cut leaves the middle of a long text out.
func cut(s string) string {
	if len(s) > 300 {
		return s[:200] + ".." + s[len(s)-80:]
	}
	return s
}

func show(v api.Value) string { return strings.ToValidUTF8(cut(fmt.Sprintf("%+v", v)), "?") }

// told is which of api's errors an error is, by its number, and its Path; of nil nothing.
type told struct {
	code int
	path string
}

const (
	arg   = 1
	rep   = 4
	limit = 5
)

// tells is what an error tells; the code is -1, if it is none of api's or several, or tells an At, or no place where one is asked for.
func tells(err error) told {
	if err == nil {
		return told{}
	}
	out := told{}
	for i, e := range []error{api.ErrArg, api.ErrNil, api.ErrInput, api.ErrRep, api.ErrLimit, api.ErrNone, api.ErrBusy, api.ErrHandle, api.ErrKey, api.ErrStopped, api.ErrScript} {
		if errors.Is(err, e) && out.code != 0 {
			return told{code: -1}
		}
		if errors.Is(err, e) {
			out.code = i + 1
		}
	}
	var fault *api.Fault
	if !errors.As(err, &fault) {
		// Only of a text that is too long no place is told.
		if out.code == limit {
			return out
		}
		return told{code: -1}
	}
	if out.code == 0 || fault.At != 0 {
		return told{code: -1}
	}
	out.path = fault.Path
	return out
}

// place is a node and where it stands.
type place struct {
	node  api.Value
	path  string
	isKey bool
}

// places are all nodes, each ahead of the nodes of its Kids.
func places(v api.Value) []place { return appendPlaces(nil, place{node: v}) }

func appendPlaces(out []place, p place) []place {
	out = append(out, p)
	for i, kid := range p.node.Kids {
		out = appendPlaces(out, place{kid, p.path + "/" + strconv.Itoa(i), p.node.Kind == api.VMap && i%2 == 0})
	}
	return out
}

// isForeign: is the node not JSON's?
func (p place) isForeign() bool {
	switch p.node.Kind {
	case api.VText:
		return false
	case api.VNull, api.VBool, api.VList, api.VMap:
		return p.isKey
	case api.VFloat:
		f := math.Float64frombits(p.node.Bits)
		return p.isKey || math.IsInf(f, 0) || math.IsNaN(f)
	case api.VInt:
		_, exact := floatOf(p.node.Int)
		return p.isKey || !exact
	}
	return true
}

// floatOf is the float that is just this whole number; false where there is none.
func floatOf(x api.Int) (float64, bool) {
	f, accuracy := new(big.Float).SetInt(bigOf(x)).Float64()
	return f, accuracy == big.Exact && !math.IsInf(f, 0)
}

// asECMAScript is how the language's own library tells a finite float, turned into ECMAScript's way.
func asECMAScript(f float64) string {
	switch size := math.Abs(f); {
	case size == 0:
		return "0"
	case f < 0:
		return "-" + asECMAScript(size)
	case 1e-6 <= f && f < 1e21:
		return strconv.FormatFloat(f, 'f', -1, 64)
	}
	digits, power, _ := strings.Cut(strconv.FormatFloat(f, 'e', -1, 64), "e")
	return digits + "e" + power[:1] + strings.TrimLeft(power[1:], "0")
}

// said is how one code point is told between quotes.
func said(c rune) string {
	switch c {
	case '"', '\\':
		return `\` + string(c)
	case 8:
		return `\b`
	case 9:
		return `\t`
	case 10:
		return `\n`
	case 12:
		return `\f`
	case 13:
		return `\r`
	}
	if c < 32 {
		return fmt.Sprintf(`\u%04x`, c)
	}
	return string(c)
}

func quoted(s string) string {
	var out strings.Builder
	for _, c := range s {
		out.WriteString(said(c))
	}
	return `"` + out.String() + `"`
}

// byUnits is the order of texts by their code units.
func byUnits(a, b string) int {
	return slices.Compare(utf16.Encode([]rune(a)), utf16.Encode([]rune(b)))
}

// written is the canonical text of a value in JSON, in the document's words.
func written(v api.Value) string {
	switch v.Kind {
	case api.VNull:
		return "null"
	case api.VBool:
		return strconv.FormatBool(v.N == 1)
	case api.VInt:
		f, _ := floatOf(v.Int)
		return asECMAScript(f)
	case api.VFloat:
		return asECMAScript(math.Float64frombits(v.Bits))
	case api.VText:
		return quoted(v.Text)
	case api.VList:
		var parts []string
		for _, kid := range v.Kids {
			parts = append(parts, written(kid))
		}
		return "[" + strings.Join(parts, ",") + "]"
	}
	behind := map[string]string{}
	var keys, parts []string
	for i := 0; i < len(v.Kids); i += 2 {
		keys = append(keys, v.Kids[i].Text)
		behind[v.Kids[i].Text] = written(v.Kids[i+1])
	}
	slices.SortFunc(keys, byUnits)
	for _, key := range keys {
		parts = append(parts, quoted(key)+":"+behind[key])
	}
	return "{" + strings.Join(parts, ",") + "}"
}

// wants is what the document asks for of any struct.
func wants(v api.Value) (string, told) {
	if err := value.Check(v); err != nil {
		return "", tells(err)
	}
	for _, p := range places(v) {
		if p.isForeign() {
			return "", told{rep, p.path}
		}
	}
	s := written(v)
	if len(s) > 1048576 {
		return "", told{code: limit}
	}
	return s, told{}
}

// parser takes canonical items by their bytes alone: where one of its methods answers false, there is none.
type parser struct{ rest string }

// take goes on behind s, if it stands here.
func (p *parser) take(s string) bool {
	rest, ok := strings.CutPrefix(p.rest, s)
	p.rest = rest
	return ok
}

func (p *parser) piece() (string, bool) {
	c, n := utf8.DecodeRuneInString(p.rest)
	if c == '\\' {
		for _, c := range "\"\\\b\t\n\f\r" {
			if p.take(said(c)) {
				return string(c), true
			}
		}
		for c := range rune(32) {
			if p.take(said(c)) {
				return string(c), true
			}
		}
		return "", false
	}
	if n == 0 || c == utf8.RuneError && n == 1 || c < 32 {
		return "", false
	}
	p.rest = p.rest[n:]
	return string(c), true
}

func (p *parser) literal() (string, bool) {
	if !p.take(`"`) {
		return "", false
	}
	var out strings.Builder
	for !p.take(`"`) {
		s, ok := p.piece()
		if !ok {
			return "", false
		}
		out.WriteString(s)
	}
	return out.String(), true
}

func (p *parser) number() bool {
	n := len(p.rest) - len(strings.TrimLeft(p.rest, "+-.0123456789Ee"))
	f, err := strconv.ParseFloat(p.rest[:n], 64)
	if err != nil || asECMAScript(f) != p.rest[:n] {
		return false
	}
	p.rest = p.rest[n:]
	return true
}

// parts takes what stands behind an opening bracket.
func (p *parser) parts(closing string, part func() bool) bool {
	if p.take(closing) {
		return true
	}
	for part() {
		if p.take(closing) {
			return true
		}
		if !p.take(",") {
			return false
		}
	}
	return false
}

// item takes one within so many others, and tells its depth; the reference gives up where it would be nested without end.
func (p *parser) item(around int) (int, bool) {
	depth := 1
	inner := func() bool {
		d, ok := p.item(around + 1)
		depth = max(depth, d+1)
		return ok
	}
	switch {
	case around > 1000:
		return 0, false
	case p.take("null") || p.take("false") || p.take("true"):
		return 0, true
	case p.take("["):
		ok := p.parts("]", inner)
		return depth, ok
	case p.take("{"):
		var ahead []string
		ok := p.parts("}", func() bool {
			key, ok := p.literal()
			rises := len(ahead) == 0 || byUnits(ahead[len(ahead)-1], key) < 0
			ahead = append(ahead, key)
			return ok && rises && p.take(":") && inner()
		})
		return depth, ok
	case strings.HasPrefix(p.rest, `"`):
		_, ok := p.literal()
		return 0, ok
	}
	return 0, p.number()
}

// depthOf is the depth of a canonical item; false, if the string is none.
func depthOf(s string) (int, bool) {
	p := &parser{s}
	depth, ok := p.item(0)
	return depth, ok && p.rest == ""
}

// isCanonical is Canon in the document's words.
func isCanonical(s string) bool {
	depth, ok := depthOf(s)
	return ok && len(s) <= 1048576 && depth <= 128
}

// answers: what is written is this, or what is told is this beside an empty text.
func answers(t *testing.T, v api.Value, want string, e told) {
	t.Helper()
	s, err := jsonwrite.Write(v)
	if s != want || tells(err) != e {
		t.Errorf("Write(%s) = %q, %v, want %q, %v", show(v), cut(s), err, cut(want), e)
	}
}

func writes(t *testing.T, v api.Value, want string) {
	t.Helper()
	answers(t, v, want, told{})
	if !jsonwrite.Canon(want) || !isCanonical(want) {
		t.Errorf("%q: Canon is %v, of the reference %v", cut(want), jsonwrite.Canon(want), isCanonical(want))
	}
}

func fails(t *testing.T, v api.Value, code int, path string) {
	t.Helper()
	answers(t, v, "", told{code, path})
}

func sameAsReference(t *testing.T, v api.Value) {
	t.Helper()
	s, e := wants(v)
	answers(t, v, s, e)
}

// canon: Canon of the string is this, and so it is of the reference.
func canon(t *testing.T, s string, want bool) {
	t.Helper()
	if got, reference := jsonwrite.Canon(s), isCanonical(s); got != want || reference != want {
		t.Errorf("Canon(%q) = %v, of the reference %v, want %v", cut(s), got, reference, want)
	}
}

// The reference itself, held against what is known.
func TestReference(t *testing.T) {
	for _, c := range []struct {
		v    api.Value
		want string
	}{
		{null, "null"}, {num(-3), "-3"}, {float(half3), "1.5"}, {whole("1000000000000000000000"), "1e+21"}, {whole("100000000000000000000"), "100000000000000000000"}, {float(0x3e7ad7f29abcaf48), "1e-7"}, {float(0x3eb0c6f7a0b5ed8d), "0.000001"}, {num(0), "0"},
		{text("é\"\\/\n\x00\x1f\x7f"), "\"é\\\"\\\\/\\n\\u0000\\u001f\x7f\""}, {object(text("ﬀ"), num(1), text("😀"), list(yes, no)), `{"😀":[true,false],"ﬀ":1}`},
	} {
		if s, e := wants(c.v); s != c.want || e != (told{}) || !isCanonical(s) {
			t.Errorf("the reference has %q, %v for %s", s, e, show(c.v))
		}
	}
	for _, c := range []struct {
		v    api.Value
		want told
	}{
		{whole("9007199254740993"), told{rep, ""}}, {list(list(float(noNumber)), raw("\x00")), told{rep, "/0/0"}}, {object(num(1), raw("")), told{rep, "/0"}}, {object(text("a"), tag(1, num(0))), told{rep, "/1"}}, {none, told{arg, ""}}, {text(strings.Repeat("a", 1048575)), told{limit, ""}}, {deep(129), told{limit, strings.Repeat("/0", 128)}},
	} {
		if s, e := wants(c.v); s != "" || e != c.want {
			t.Errorf("the reference has %q, %v for %s", s, e, show(c.v))
		}
	}
	for s, want := range map[string]int{"0": 0, "[]": 1, `{"a":[1,{}],"b":0}`: 3, "[[],[[]],1]": 3, `"[["`: 0} {
		if d, ok := depthOf(s); !ok || d != want {
			t.Errorf("the reference has the depth %d, %v for %q", d, ok, s)
		}
	}
	for _, s := range []string{"", " ", "[1,]", "[", `{"a"}`, "nul", "\"\xff\"", "1.0", "-0", `"\/"`, `"\u000a"`, `"\u000A"`, `{"b":1,"a":2}`, `{"a":1,"a":2}`, "[1]]", "+1", "1 ", `"`, `"\`, `{`, "1e21"} {
		if isCanonical(s) {
			t.Errorf("the reference takes %q", s)
		}
	}
}
