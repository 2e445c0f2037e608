package jsonread_test

import (
	"cmp"
	"encoding/json"
	"errors"
	"fmt"
	"math"
	"math/big"
	"slices"
	"strconv"
	"strings"
	"testing"

	"crucible/api"
	"crucible/jsonread"
	"crucible/jsonscan"
	"crucible/number"
	"crucible/value"
)

var (
	null = api.Value{Kind: api.VNull}
	no   = api.Value{Kind: api.VBool}
	yes  = api.Value{Kind: api.VBool, N: 1}
)

func text(s string) api.Value         { return api.Value{Kind: api.VText, Text: s} }
func float(bits uint64) api.Value     { return api.Value{Kind: api.VFloat, Bits: bits} }
func list(l ...api.Value) api.Value   { return api.Value{Kind: api.VList, Kids: l} }
func object(l ...api.Value) api.Value { return api.Value{Kind: api.VMap, Kids: l} }

// whole is a whole number by its decimal digits.
func whole(digits string) api.Value {
	n, ok := new(big.Int).SetString(digits, 10)
	if !ok {
		panic(digits)
	}
	return wholeOf(n)
}

func wholeOf(n *big.Int) api.Value {
	out := api.Value{Kind: api.VInt, Int: api.Int{Neg: n.Sign() < 0}}
	limb := big.NewInt(math.MaxUint32)
	for m := new(big.Int).Abs(n); m.Sign() > 0; m.Rsh(m, 32) {
		out.Int.Mag = append(out.Int.Mag, uint32(new(big.Int).And(m, limb).Uint64()))
	}
	return out
}

// numberOf is the number value of a float that is finite.
func numberOf(f float64) api.Value {
	if f != math.Trunc(f) {
		return float(math.Float64bits(f))
	}
	n, _ := big.NewFloat(f).Int(nil)
	return wholeOf(n)
}

func same(a, b api.Value) bool {
	return a.Kind == b.Kind && a.N == b.N && a.Int.Neg == b.Int.Neg && slices.Equal(a.Int.Mag, b.Int.Mag) && a.Bits == b.Bits && a.Ext == b.Ext && a.Text == b.Text && slices.EqualFunc(a.Kids, b.Kids, same)
}

// cut leaves the middle of a long text out.
func cut(s string) string {
	if len(s) > 200 {
		return s[:120] + ".." + s[len(s)-60:]
	}
	return s
}

func show(v api.Value) string { return strings.ToValidUTF8(cut(fmt.Sprintf("%+v", v)), "?") }

// told is which of api's errors an error is, by its number, and its place; of nil nothing.
type told struct{ code, at int }

const (
	input = 3
	limit = 5
)

// tells is what an error tells; the code is -1, if it is none of api's or several, has no place, or has a Path.
func tells(err error) told {
	if err == nil {
		return told{}
	}
	out := told{}
	for i, e := range []error{api.ErrArg, api.ErrNil, api.ErrInput, api.ErrRep, api.ErrLimit, api.ErrNone, api.ErrBusy, api.ErrHandle, api.ErrKey, api.ErrStopped, api.ErrScript} {
		if errors.Is(err, e) && out.code != 0 {
			return told{code: -1}
		}
		if errors.Is(err, e) {
			out.code = i + 1
		}
	}
	var fault *api.Fault
	if out.code == 0 || !errors.As(err, &fault) || fault.Path != "" {
		return told{code: -1}
	}
	out.at = fault.At
	return out
}

// scans is what a scanner tells of a string, written byte by byte, and how many lists and maps were open at most.
func scans(s string) (told, int) {
	scanner := jsonscan.New()
	deepest := 0
	for i := range len(s) {
		if err := scanner.Write(s[i : i+1]); err != nil {
			return tells(err), deepest
		}
		deepest = max(deepest, scanner.Depth())
	}
	return tells(scanner.Close()), deepest
}

// reference follows the document's words with the language's own library: it goes on behind what is wrong, and keeps the first place.
type reference struct {
	s       string
	decoder *json.Decoder
	wrong   []int
}

// token is the next one, and its place.
func (p *reference) token() (json.Token, int) {
	at := int(p.decoder.InputOffset())
	for strings.IndexByte(" \t\r\n,:", p.s[at]) >= 0 {
		at++
	}
	t, err := p.decoder.Token()
	if err != nil {
		panic(err)
	}
	return t, at
}

func (p *reference) value() api.Value {
	switch t, at := p.token(); x := t.(type) {
	case nil:
		return null
	case bool:
		if x {
			return yes
		}
		return no
	case string:
		return text(x)
	case json.Number:
		f, err := strconv.ParseFloat(string(x), 64)
		if err != nil {
			p.wrong = append(p.wrong, at)
			return null
		}
		return numberOf(f)
	case json.Delim:
		if x == '{' {
			return p.object()
		}
	}
	out := list()
	for p.decoder.More() {
		out.Kids = append(out.Kids, p.value())
	}
	p.token()
	return out
}

func (p *reference) object() api.Value {
	var pairs [][2]api.Value
	for p.decoder.More() {
		t, at := p.token()
		key := t.(string)
		if stands(key, pairs) {
			p.wrong = append(p.wrong, at)
		}
		pairs = append(pairs, [2]api.Value{text(key), p.value()})
	}
	p.token()
	return inOrder(pairs)
}

// inOrder is the map of pairs.
func inOrder(pairs [][2]api.Value) api.Value {
	slices.SortFunc(pairs, func(a, b [2]api.Value) int { return cmp.Compare(a[0].Text, b[0].Text) })
	out := object()
	for _, p := range pairs {
		out.Kids = append(out.Kids, p[0], p[1])
	}
	return out
}

// stands: is one of the keys this text?
func stands(key string, pairs [][2]api.Value) bool {
	return slices.ContainsFunc(pairs, func(p [2]api.Value) bool { return p[0].Text == key })
}

// wants is what the document asks for of a string.
func wants(s string) (api.Value, told) {
	if len(s) > 1048576 {
		return api.Value{}, told{limit, 1048576}
	}
	if e, _ := scans(s); e != (told{}) {
		return api.Value{}, e
	}
	p := &reference{s: s, decoder: json.NewDecoder(strings.NewReader(s))}
	p.decoder.UseNumber()
	v := p.value()
	if len(p.wrong) > 0 {
		return api.Value{}, told{input, slices.Min(p.wrong)}
	}
	return v, told{}
}

func isFinite(bits uint64) bool { return bits>>52&0x7ff != 0x7ff }

// inJSON: is the value in the format JSON?
func inJSON(v api.Value) bool {
	switch v.Kind {
	case api.VNull, api.VBool, api.VText:
		return true
	case api.VInt:
		bits, ok := number.Bits(v)
		return ok && isFinite(bits)
	case api.VFloat:
		return isFinite(v.Bits)
	case api.VList, api.VMap:
		for i, kid := range v.Kids {
			if !inJSON(kid) || v.Kind == api.VMap && i%2 == 0 && kid.Kind != api.VText {
				return false
			}
		}
		return true
	}
	return false
}

// answers: what is read is this, and holds to what follows (P17.2).
func answers(t *testing.T, s string, want api.Value, e told) {
	t.Helper()
	v, err := jsonread.Read(s)
	if !same(v, want) || tells(err) != e {
		t.Errorf("Read(%q) = %s, %v, want %s, %v", cut(s), show(v), err, show(want), e)
		return
	}
	if err != nil {
		return
	}
	if err := value.Check(v); err != nil || !inJSON(v) {
		t.Errorf("Read(%q) = %s: may it be: %v, is it in the format JSON: %v", cut(s), show(v), err, inJSON(v))
	}
	if _, deepest := scans(s); value.Depth(v) != deepest {
		t.Errorf("Read(%q) has the depth %d, want %d", cut(s), value.Depth(v), deepest)
	}
}

func reads(t *testing.T, s string, want api.Value) {
	t.Helper()
	answers(t, s, want, told{})
}

// fails: the answer is an error with this place, and the zero struct.
func fails(t *testing.T, s string, code, at int) {
	t.Helper()
	answers(t, s, api.Value{}, told{code, at})
}

func sameAsReference(t *testing.T, s string) {
	t.Helper()
	v, e := wants(s)
	answers(t, s, v, e)
}

// The reference itself, held against what is known.
func TestReference(t *testing.T) {
	for _, c := range []struct {
		s    string
		want api.Value
	}{
		{" [1, 2.50, -0]\n", list(whole("1"), float(0x4004000000000000), whole("0"))},
		{`{"b": "\u00e9\n", "a": [true, false, null, {}]}`, object(text("a"), list(yes, no, null, object()), text("b"), text("é\n"))},
		{"-1e21", whole("-1000000000000000000000")}, {"18446744073709551615", whole("18446744073709551616")},
	} {
		if v, e := wants(c.s); !same(v, c.want) || e != (told{}) {
			t.Errorf("the reference has %s, %v for %q", show(v), e, c.s)
		}
	}
	for _, c := range []struct {
		s    string
		want told
	}{
		{"[1e999, 1e999]", told{input, 1}}, {`{"a": 1, "\u0061": 2}`, told{input, 9}}, {`[{"a": 1, "a": 1e999}]`, told{input, 10}}, {`[ {"a":{"b":1, "b":2},"a":1}]`, told{input, 15}},
		{"[1e999, x", told{input, 8}}, {"", told{input, 0}}, {strings.Repeat("[", 129), told{limit, 128}}, {strings.Repeat("x", 1048577), told{limit, 1048576}},
	} {
		if v, e := wants(c.s); !same(v, api.Value{}) || e != c.want {
			t.Errorf("the reference has %s, %v for %q", show(v), e, cut(c.s))
		}
	}
	if n := whole("-18446744073709551616"); !n.Int.Neg || !slices.Equal(n.Int.Mag, api.Nat{0, 0, 1}) {
		t.Errorf("the reference has %s", show(n))
	}
}
