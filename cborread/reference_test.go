package cborread_test

import (
	"encoding/hex"
	"errors"
	"fmt"
	"math"
	"math/big"
	"slices"
	"strings"
	"testing"

	"crucible/api"
	"crucible/cborread"
	"crucible/value"
)

var (
	null = api.Value{Kind: api.VNull}
	no   = api.Value{Kind: api.VBool}
	yes  = api.Value{Kind: api.VBool, N: 1}
)

func text(s string) api.Value         { return api.Value{Kind: api.VText, Text: s} }
func raw(s string) api.Value          { return api.Value{Kind: api.VBytes, Text: s} }
func float(bits uint64) api.Value     { return api.Value{Kind: api.VFloat, Bits: bits} }
func simple(n uint64) api.Value       { return api.Value{Kind: api.VSimple, N: n} }
func list(l ...api.Value) api.Value   { return api.Value{Kind: api.VList, Kids: l} }
func object(l ...api.Value) api.Value { return api.Value{Kind: api.VMap, Kids: l} }

func tag(n uint64, v api.Value) api.Value {
	return api.Value{Kind: api.VTag, N: n, Kids: []api.Value{v}}
}

// whole is a whole number by its decimal digits.
func whole(digits string) api.Value {
	n, ok := new(big.Int).SetString(digits, 10)
	if !ok {
		panic(digits)
	}
	return wholeOf(n)
}

func wholeOf(n *big.Int) api.Value {
	out := api.Value{Kind: api.VInt, Int: api.Int{Neg: n.Sign() < 0}}
	bytes := new(big.Int).Abs(n).Bytes()
	for len(bytes)%4 != 0 {
		bytes = append([]byte{0}, bytes...)
	}
	for i := len(bytes); i > 0; i -= 4 {
		out.Int.Mag = append(out.Int.Mag, uint32(bytes[i-4])<<24|uint32(bytes[i-3])<<16|uint32(bytes[i-2])<<8|uint32(bytes[i-1]))
	}
	return out
}

// bigOf undoes wholeOf.
func bigOf(v api.Value) *big.Int {
	out := new(big.Int)
	for _, limb := range slices.Backward(v.Int.Mag) {
		out.Add(out.Lsh(out, 32), new(big.Int).SetUint64(uint64(limb)))
	}
	if v.Int.Neg {
		out.Neg(out)
	}
	return out
}

// numberOf is the number value of a float of the language.
func numberOf(f float64) api.Value {
	switch {
	case math.IsNaN(f):
		return float(0x7ff8000000000000)
	case math.IsInf(f, 0) || f != math.Trunc(f):
		return float(math.Float64bits(f))
	}
	n, _ := big.NewFloat(f).Int(nil)
	return wholeOf(n)
}

// half is the number of a pattern of 16 bits, by the document's words.
func half(bits uint16) float64 {
	fraction, exponent := float64(bits&1023), int(bits>>10&31)
	out := math.Ldexp(fraction+1024, exponent-25)
	switch {
	case exponent == 31 && fraction == 0:
		out = math.Inf(1)
	case exponent == 31:
		return math.NaN()
	case exponent == 0:
		out = math.Ldexp(fraction, -24)
	}
	if bits>>15 == 1 {
		return -out
	}
	return out
}

func same(a, b api.Value) bool {
	return a.Kind == b.Kind && a.N == b.N && a.Int.Neg == b.Int.Neg && slices.Equal(a.Int.Mag, b.Int.Mag) && a.Bits == b.Bits && a.Ext == b.Ext && a.Text == b.Text && slices.EqualFunc(a.Kids, b.Kids, same)
}

// of is bytes by hexadecimal digits, with blanks anywhere.
func of(digits string) string {
	out, err := hex.DecodeString(strings.ReplaceAll(digits, " ", ""))
	if err != nil {
		panic(digits)
	}
	return string(out)
}

func show(v api.Value) string {
	s := fmt.Sprintf("%+q", fmt.Sprintf("%+v", v))
	if len(s) > 300 {
		return s[:300] + ".."
	}
	return s
}

func hexed(s string) string {
	if len(s) > 120 {
		return fmt.Sprintf("% x .. % x, %d bytes", s[:80], s[len(s)-30:], len(s))
	}
	return fmt.Sprintf("% x", s)
}

// told is which of api's errors an error is, by its number, and its place; of nil nothing.
type told struct{ code, at int }

const (
	arg   = 1
	input = 3
	limit = 5
)

// farther is what is told with its place so much farther on.
func (e told) farther(by int) told {
	if e.code == input || e.code == limit {
		e.at += by
	}
	return e
}

// tells is what an error tells; the code is -1, if it is none of api's or several, has no place where one is told, or has a Path.
func tells(err error) told {
	if err == nil {
		return told{}
	}
	out := told{}
	for i, e := range []error{api.ErrArg, api.ErrNil, api.ErrInput, api.ErrRep, api.ErrLimit, api.ErrNone, api.ErrBusy, api.ErrHandle, api.ErrKey, api.ErrStopped, api.ErrScript} {
		if errors.Is(err, e) && out.code != 0 {
			return told{code: -1}
		}
		if errors.Is(err, e) {
			out.code = i + 1
		}
	}
	var fault *api.Fault
	if !errors.As(err, &fault) {
		if out.code != arg {
			return told{code: -1}
		}
		return out
	}
	if out.code == 0 || fault.Path != "" {
		return told{code: -1}
	}
	out.at = fault.At
	return out
}

// encodings tells of each byte how long the encodings are that it begins, and which bytes may stand behind it.
type encodings struct {
	size   [256]int
	second [256][256]bool
}

func newEncodings() *encodings {
	e := &encodings{}
	for c := range rune(0x110000) {
		if c >= 0xd800 && c < 0xe000 {
			continue
		}
		s := string(c)
		e.size[s[0]] = len(s)
		if len(s) > 1 {
			e.second[s[0]][s[1]] = true
		}
	}
	return e
}

var known = newEncodings()

// goesOn: does an encoding go on with a byte behind those that have come of it, there being room for so many more, this one counted? And does it end?
func (e *encodings) goesOn(come string, b byte, room uint64) (ok, ends bool) {
	all := come + string([]byte{b})
	size := e.size[all[0]]
	switch {
	case size == 0 || uint64(size-len(come)) > room:
		return false, false
	case len(all) == 2:
		ok = e.second[all[0]][b]
	case len(all) > 2:
		ok = b >= 0x80 && b <= 0xbf
	default:
		ok = true
	}
	return ok, ok && len(all) == size
}

// part is something that has begun and waits for items, or for pieces.
type part struct {
	major byte
	open  bool
	arg   uint64
	from  int
	kids  []api.Value
	text  string
}

// machine takes a document byte by byte, and knows nothing of what comes.
type machine struct {
	parts []part
	at    int
	// of a head of which not all bytes have come.
	first byte
	from  int
	arg   uint64
	left  int
	// of a string of which not all bytes have come.
	string []byte
	room   uint64
	come   string

	err  told
	done bool
	out  api.Value
}

func (m *machine) wrong() { m.err = told{input, m.at} }

func (m *machine) top() *part {
	if len(m.parts) == 0 {
		return &part{}
	}
	return &m.parts[len(m.parts)-1]
}

// take looks at one byte.
func (m *machine) take(b byte) {
	switch {
	case m.left > 0:
		if m.first == 0xf8 && b < 32 {
			m.wrong()
			return
		}
		m.arg = m.arg<<8 | uint64(b)
		m.left--
		if m.left == 0 {
			m.headed()
		}
	case m.room > 0:
		m.letter(b)
	default:
		m.begins(b)
	}
	m.at++
}

// letter is a byte of a string.
func (m *machine) letter(b byte) {
	if m.first>>5 == 3 {
		ok, ends := known.goesOn(m.come, b, m.room)
		if !ok {
			m.wrong()
			return
		}
		m.come += string([]byte{b})
		if ends {
			m.come = ""
		}
	}
	m.string = append(m.string, b)
	m.room--
	if m.room == 0 {
		m.stringEnds()
	}
}

// mayStand: may an item begin with this byte, or a piece, or a break stand there?
func (m *machine) mayStand(b byte) bool {
	major, info := b>>5, b&31
	inside := m.top()
	if b == 0xff {
		return inside.open && (inside.major != 5 || len(inside.kids)%2 == 0)
	}
	if info > 27 && (info != 31 || major < 2 || major > 5) {
		return false
	}
	switch {
	case inside.major == 2 || inside.major == 3:
		return major == inside.major && info != 31
	case inside.major == 6 && (inside.arg == 2 || inside.arg == 3):
		return major == 2
	}
	return true
}

func (m *machine) begins(b byte) {
	if !m.mayStand(b) {
		m.wrong()
		return
	}
	if b == 0xff {
		m.ends()
		return
	}
	m.first, m.from, m.arg = b, m.at, 0
	m.left = map[byte]int{24: 1, 25: 2, 26: 4, 27: 8}[b&31]
	if m.left == 0 {
		m.arg = uint64(b & 31)
		m.headed()
	}
}

// headed: the last byte of a head has come.
func (m *machine) headed() {
	major, info := m.first>>5, m.first&31
	switch major {
	case 0:
		m.give(wholeOf(new(big.Int).SetUint64(m.arg)), m.from)
	case 1:
		m.give(wholeOf(new(big.Int).Not(new(big.Int).SetUint64(m.arg))), m.from)
	case 2, 3:
		m.string = nil
		switch {
		case info == 31:
			m.parts = append(m.parts, part{major: major, open: true, from: m.from})
		case m.arg == 0:
			m.stringEnds()
		default:
			m.room = m.arg
		}
	case 4, 5, 6:
		m.opens(part{major: major, open: info == 31, arg: m.arg, from: m.from})
	case 7:
		m.give(m.seventh(info), m.from)
	}
}

func (m *machine) seventh(info byte) api.Value {
	switch info {
	case 20:
		return no
	case 21:
		return yes
	case 22:
		return null
	case 25:
		return numberOf(half(uint16(m.arg)))
	case 26:
		return numberOf(float64(math.Float32frombits(uint32(m.arg))))
	case 27:
		return numberOf(math.Float64frombits(m.arg))
	}
	return simple(m.arg)
}

func isContainer(p part) bool {
	return p.major == 4 || p.major == 5 || p.major == 6 && p.arg != 2 && p.arg != 3
}

func (m *machine) opens(p part) {
	around := 0
	for _, q := range m.parts {
		if isContainer(q) {
			around++
		}
	}
	if isContainer(p) && around >= 128 {
		m.err = told{limit, p.from}
		return
	}
	m.parts = append(m.parts, p)
	if p.major != 6 && !p.open && p.arg == 0 {
		m.ends()
	}
}

// stringEnds: the last byte of a string, or of a piece, has come.
func (m *machine) stringEnds() {
	inside := m.top()
	if inside.major == 2 || inside.major == 3 {
		inside.text += string(m.string)
		return
	}
	m.give(stringOf(m.first>>5, string(m.string)), m.from)
}

func stringOf(major byte, s string) api.Value {
	if major == 2 {
		return raw(s)
	}
	return text(s)
}

// ends: the innermost part has all that it waited for.
func (m *machine) ends() {
	p := *m.top()
	m.parts = m.parts[:len(m.parts)-1]
	switch p.major {
	case 2, 3:
		m.give(stringOf(p.major, p.text), p.from)
	case 4:
		m.give(list(p.kids...), p.from)
	case 5:
		m.give(inOrder(p.kids), p.from)
	case 6:
		m.give(tagOf(p.arg, p.kids[0]), p.from)
	}
}

func tagOf(n uint64, kid api.Value) api.Value {
	great := new(big.Int).SetBytes([]byte(kid.Text))
	switch n {
	case 2:
		return wholeOf(great)
	case 3:
		return wholeOf(great.Not(great))
	}
	return tag(n, kid)
}

// inOrder is the map of keys and values in turn.
func inOrder(kids []api.Value) api.Value {
	var pairs [][]api.Value
	for pair := range slices.Chunk(kids, 2) {
		pairs = append(pairs, pair)
	}
	slices.SortFunc(pairs, func(a, b []api.Value) int { return value.Compare(a[0], b[0]) })
	return object(slices.Concat(pairs...)...)
}

// stands: is one of the keys this value?
func stands(key api.Value, kids []api.Value) bool {
	for i := 0; i < len(kids); i += 2 {
		if same(kids[i], key) {
			return true
		}
	}
	return false
}

// give hands a value, whose item began at a place, to the part around it.
func (m *machine) give(v api.Value, from int) {
	if len(m.parts) == 0 {
		m.done, m.out = true, v
		return
	}
	p := m.top()
	if p.major == 5 && len(p.kids)%2 == 0 && stands(v, p.kids) {
		m.err = told{input, from}
		return
	}
	p.kids = append(p.kids, v)
	come := uint64(len(p.kids))
	switch {
	case p.major == 6, !p.open && p.major == 4 && come == p.arg, !p.open && p.major == 5 && come%2 == 0 && come/2 == p.arg:
		m.ends()
	}
}

// wantsNext is what the document asks for of the item at a place.
func wantsNext(s string, at int) (api.Value, int, told) {
	switch {
	case at < 0 || at > len(s):
		return api.Value{}, 0, told{code: arg}
	case len(s) > 1048576:
		return api.Value{}, 0, told{limit, 1048576}
	}
	m := machine{at: at}
	for m.at < len(s) && !m.done {
		m.take(s[m.at])
		if m.err != (told{}) {
			return api.Value{}, 0, m.err
		}
	}
	if !m.done {
		return api.Value{}, 0, told{input, len(s)}
	}
	return m.out, m.at, told{}
}

// wants is what the document asks for of a document.
func wants(s string) (api.Value, told) {
	v, behind, e := wantsNext(s, 0)
	if e == (told{}) && behind < len(s) {
		return api.Value{}, told{input, behind}
	}
	return v, e
}

// has: does a node of this kind stand in a value?
func has(v api.Value, kind api.Kind) bool {
	return v.Kind == kind || slices.ContainsFunc(v.Kids, func(kid api.Value) bool { return has(kid, kind) })
}

// mayBe: P20.3 of what is read.
func mayBe(t *testing.T, s string, v api.Value) {
	t.Helper()
	if err := value.Check(v); err != nil || has(v, api.VExt) {
		t.Errorf("of %s is read %s: %v", hexed(s), show(v), err)
	}
}

// nextAnswers asks for the item at a place.
func nextAnswers(t *testing.T, s string, at int, want api.Value, behind int, e told) {
	t.Helper()
	v, n, err := cborread.Next(s, at)
	if !same(v, want) || n != behind || tells(err) != e {
		t.Errorf("Next(%s, %d) = %s, %d, %v, want %s, %d, %v", hexed(s), at, show(v), n, err, show(want), behind, e)
	}
	if err == nil {
		mayBe(t, s, v)
	}
}

// answers asks for the value of a document.
func answers(t *testing.T, s string, want api.Value, e told) {
	t.Helper()
	v, err := cborread.Read(s)
	if !same(v, want) || tells(err) != e {
		t.Errorf("Read(%s) = %s, %v, want %s, %v", hexed(s), show(v), err, show(want), e)
	}
	if err == nil {
		mayBe(t, s, v)
	}
}

// reads: the bytes are a document of this value, and an item of it wherever they stand.
func reads(t *testing.T, s string, want api.Value) {
	t.Helper()
	answers(t, s, want, told{})
	nextAnswers(t, s, 0, want, len(s), told{})
	if len(s) < 1000 {
		nextAnswers(t, "\x81"+s+"\xff", 1, want, 1+len(s), told{})
	}
}

// fails: the answer is an error with this place, and nothing beside it.
func fails(t *testing.T, s string, code, at int) {
	t.Helper()
	answers(t, s, api.Value{}, told{code, at})
}

// failsAt: ErrInput at the place that a ^ marks among hexadecimal digits.
func failsAt(t *testing.T, marked string) {
	t.Helper()
	ahead, behind, ok := strings.Cut(marked, "^")
	if !ok || strings.Contains(behind, "^") {
		t.Fatalf("one mark is wanted: %q", marked)
	}
	fails(t, of(ahead+behind), input, len(of(ahead)))
}

func sameAsReference(t *testing.T, s string) {
	t.Helper()
	v, e := wants(s)
	answers(t, s, v, e)
	v, n, e := wantsNext(s, 0)
	nextAnswers(t, s, 0, v, n, e)
}

// The reference itself, held against what is known.
func TestReference(t *testing.T) {
	for _, c := range []struct {
		s    string
		want api.Value
	}{
		{"83 01 82 02 03 9f 04 ff", list(whole("1"), list(whole("2"), whole("3")), list(whole("4")))},
		{"bf 61 62 01 7f 61 61 60 ff 02 ff", object(text("a"), whole("2"), text("b"), whole("1"))},
		{"c3 49 01 00 00 00 00 00 00 00 00", whole("-18446744073709551617")}, {"c2 5f 41 01 41 00 ff", whole("256")}, {"82 c2 40 c1 80", list(whole("0"), tag(1, list()))},
		{"3b ff ff ff ff ff ff ff ff", whole("-18446744073709551616")}, {"85 f4 f5 f6 f7 f8 ff", list(no, yes, null, simple(23), simple(255))},
		{"86 f9 3e 00 fa 3f c0 00 00 f9 80 00 f9 7c 01 fb ff f0 00 00 00 00 00 00 f9 00 01", list(float(0x3ff8000000000000), float(0x3ff8000000000000), whole("0"), float(0x7ff8000000000000), float(0xfff0000000000000), float(0x3e70000000000000))},
	} {
		if v, e := wants(of(c.s)); !same(v, c.want) || e != (told{}) {
			t.Errorf("the reference has %s, %v for %s", show(v), e, c.s)
		}
	}
	for _, c := range []struct {
		s    string
		want told
	}{
		{"", told{input, 0}}, {"82 01", told{input, 2}}, {"7b 7f ff ff ff ff ff ff ff 61", told{input, 10}}, {"1f", told{input, 0}}, {"00 00", told{input, 1}}, {"f8 1f", told{input, 1}}, {"bf 01 ff", told{input, 2}},
		{"62 c3 28", told{input, 2}}, {"61 c3", told{input, 1}}, {"63 e2 82 c3", told{input, 3}}, {"7f 61 c3 61 a9 ff", told{input, 2}}, {"7f 41 61 ff", told{input, 1}}, {"5f 5f ff ff", told{input, 1}}, {"c2 c2 40", told{input, 1}},
		{"a2 82 01 02 00 82 01 18 02 00", told{input, 5}}, {"a2 5f 41 61 ff 00 41 61", told{input, 6}}, {"a2 c2 41 01 00 01 1c", told{input, 5}}, {strings.Repeat("81", 129), told{limit, 128}}, {strings.Repeat("00", 1048577), told{limit, 1048576}},
	} {
		if v, e := wants(of(c.s)); !same(v, api.Value{}) || e != c.want {
			t.Errorf("the reference has %s, %v for %.80s", show(v), e, c.s)
		}
	}
	for _, digits := range []string{"0", "1", "-1", "4294967296", "-18446744073709551617"} {
		if n := bigOf(whole(digits)); n.String() != digits {
			t.Errorf("the reference has %v for %s", n, digits)
		}
	}
}
