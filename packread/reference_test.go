package packread_test

import (
	"encoding/hex"
	"errors"
	"fmt"
	"math"
	"math/big"
	"slices"
	"strings"
	"testing"

	"crucible/api"
	"crucible/packread"
	"crucible/value"
)

var (
	null = api.Value{Kind: api.VNull}
	no   = api.Value{Kind: api.VBool}
	yes  = api.Value{Kind: api.VBool, N: 1}
)

func text(s string) api.Value         { return api.Value{Kind: api.VText, Text: s} }
func raw(s string) api.Value          { return api.Value{Kind: api.VBytes, Text: s} }
func float(bits uint64) api.Value     { return api.Value{Kind: api.VFloat, Bits: bits} }
func list(l ...api.Value) api.Value   { return api.Value{Kind: api.VList, Kids: l} }
func object(l ...api.Value) api.Value { return api.Value{Kind: api.VMap, Kids: l} }

func extension(sort int8, s string) api.Value {
	return api.Value{Kind: api.VExt, Ext: sort, Text: s}
}

// whole is a whole number by its decimal digits.
func whole(digits string) api.Value {
	n, ok := new(big.Int).SetString(digits, 10)
	if !ok {
		panic(digits)
	}
	return wholeOf(n)
}

func wholeOf(n *big.Int) api.Value {
	out := api.Value{Kind: api.VInt, Int: api.Int{Neg: n.Sign() < 0}}
	bytes := new(big.Int).Abs(n).Bytes()
	for len(bytes)%4 != 0 {
		bytes = append([]byte{0}, bytes...)
	}
	for i := len(bytes); i > 0; i -= 4 {
		out.Int.Mag = append(out.Int.Mag, uint32(bytes[i-4])<<24|uint32(bytes[i-3])<<16|uint32(bytes[i-2])<<8|uint32(bytes[i-1]))
	}
	return out
}

// bigOf undoes wholeOf.
func bigOf(v api.Value) *big.Int {
	out := new(big.Int)
	for _, limb := range slices.Backward(v.Int.Mag) {
		out.Add(out.Lsh(out, 32), new(big.Int).SetUint64(uint64(limb)))
	}
	if v.Int.Neg {
		out.Neg(out)
	}
	return out
}

// numberOf is the number value of a float of the language.
func numberOf(f float64) api.Value {
	switch {
	case math.IsNaN(f):
		return float(0x7ff8000000000000)
	case math.IsInf(f, 0) || f != math.Trunc(f):
		return float(math.Float64bits(f))
	}
	n, _ := big.NewFloat(f).Int(nil)
	return wholeOf(n)
}

func same(a, b api.Value) bool {
	return a.Kind == b.Kind && a.N == b.N && a.Int.Neg == b.Int.Neg && slices.Equal(a.Int.Mag, b.Int.Mag) && a.Bits == b.Bits && a.Ext == b.Ext && a.Text == b.Text && slices.EqualFunc(a.Kids, b.Kids, same)
}

// of is bytes by hexadecimal digits, with blanks anywhere.
func of(digits string) string {
	out, err := hex.DecodeString(strings.ReplaceAll(digits, " ", ""))
	if err != nil {
		panic(digits)
	}
	return string(out)
}

func show(v api.Value) string {
	s := fmt.Sprintf("%+q", fmt.Sprintf("%+v", v))
	if len(s) > 300 {
		return s[:300] + ".."
	}
	return s
}

func hexed(s string) string {
	if len(s) > 120 {
		return fmt.Sprintf("% x .. % x, %d bytes", s[:80], s[len(s)-30:], len(s))
	}
	return fmt.Sprintf("% x", s)
}

// told is which of api's errors an error is, by its number, and its place; of nil nothing.
type told struct{ code, at int }

const (
	arg   = 1
	input = 3
	limit = 5
)

// farther is what is told with its place so much farther on.
func (e told) farther(by int) told {
	if e.code == input || e.code == limit {
		e.at += by
	}
	return e
}

// tells is what an error tells; the code is -1, if it is none of api's or several, has no place where one is told, or has a Path.
func tells(err error) told {
	if err == nil {
		return told{}
	}
	out := told{}
	for i, e := range []error{api.ErrArg, api.ErrNil, api.ErrInput, api.ErrRep, api.ErrLimit, api.ErrNone, api.ErrBusy, api.ErrHandle, api.ErrKey, api.ErrStopped, api.ErrScript} {
		if errors.Is(err, e) && out.code != 0 {
			return told{code: -1}
		}
		if errors.Is(err, e) {
			out.code = i + 1
		}
	}
	var fault *api.Fault
	if !errors.As(err, &fault) {
		if out.code != arg {
			return told{code: -1}
		}
		return out
	}
	if out.code == 0 || fault.Path != "" {
		return told{code: -1}
	}
	out.at = fault.At
	return out
}

// encodings tells of each byte how long the encodings are that it begins, and which bytes may stand behind it.
type encodings struct {
	size   [256]int
	second [256][256]bool
}

func newEncodings() *encodings {
	e := &encodings{}
	for c := range rune(0x110000) {
		if c >= 0xd800 && c < 0xe000 {
			continue
		}
		s := string(c)
		e.size[s[0]] = len(s)
		if len(s) > 1 {
			e.second[s[0]][s[1]] = true
		}
	}
	return e
}

var known = newEncodings()

// goesOn: does an encoding go on with a byte behind those that have come of it, there being room for so many more, this one counted? And does it end?
func (e *encodings) goesOn(come string, b byte, room uint64) (ok, ends bool) {
	all := come + string([]byte{b})
	size := e.size[all[0]]
	switch {
	case size == 0 || uint64(size-len(come)) > room:
		return false, false
	case len(all) == 2:
		ok = e.second[all[0]][b]
	case len(all) > 2:
		ok = b >= 0x80 && b <= 0xbf
	default:
		ok = true
	}
	return ok, ok && len(all) == size
}

// row is one of the chapter's table.
type row struct {
	// sort is what the value is: a kind, or how the number is read.
	sort string
	// wide is how many bytes of n, or of the number, stand behind the first byte, and whether a type does.
	wide  int
	typed bool
	// n is what the first byte says.
	n uint64
}

// table is the chapter's, by the first byte.
func table() (out [256]row) {
	each := func(from, to int, sort string, less int) {
		for b := from; b <= to; b++ {
			out[b] = row{sort: sort, n: uint64(int64(b - less))}
		}
	}
	each(0x00, 0x7f, "signed 8", 0)
	each(0xe0, 0xff, "signed 8", 256)
	each(0xa0, 0xbf, "text", 0xa0)
	each(0x90, 0x9f, "list", 0x90)
	each(0x80, 0x8f, "map", 0x80)
	out[0xc0] = row{sort: "null"}
	out[0xc2] = row{sort: "false"}
	out[0xc3] = row{sort: "true"}
	for i, wide := range []int{1, 2, 4, 8} {
		out[0xcc+i] = row{sort: "unsigned", wide: wide}
		out[0xd0+i] = row{sort: fmt.Sprint("signed ", wide), wide: wide}
	}
	out[0xca] = row{sort: "single", wide: 4}
	out[0xcb] = row{sort: "double", wide: 8}
	for i, wide := range []int{1, 2, 4} {
		out[0xd9+i] = row{sort: "text", wide: wide}
		out[0xc4+i] = row{sort: "bytes", wide: wide}
		out[0xc7+i] = row{sort: "extension", wide: wide, typed: true}
	}
	for i, wide := range []int{2, 4} {
		out[0xdc+i] = row{sort: "list", wide: wide}
		out[0xde+i] = row{sort: "map", wide: wide}
	}
	for i, n := range []uint64{1, 2, 4, 8, 16} {
		out[0xd4+i] = row{sort: "extension", typed: true, n: n}
	}
	return out
}

var rows = table()

// part is a list or a map that has begun and waits for items.
type part struct {
	sort string
	left uint64
	from int
	kids []api.Value
}

// machine takes a document byte by byte, and knows nothing of what comes.
type machine struct {
	parts []part
	at    int
	// of an item of which not all bytes have come.
	row     row
	from    int
	n       uint64
	wide    int
	untyped bool
	kind    byte
	room    uint64
	string  []byte
	come    string

	err  told
	done bool
	out  api.Value
}

// take looks at one byte.
func (m *machine) take(b byte) {
	switch {
	case m.wide > 0:
		m.n = m.n<<8 | uint64(b)
		m.wide--
		m.headed()
	case m.untyped:
		m.kind, m.untyped = b, false
		m.headed()
	case m.room > 0:
		m.letter(b)
	case rows[b].sort == "":
		m.err = told{input, m.at}
	default:
		m.row, m.from, m.string = rows[b], m.at, nil
		m.n, m.wide, m.untyped = m.row.n, m.row.wide, m.row.typed
		m.headed()
	}
	m.at++
}

// letter is a byte of a text, of bytes or of an extension.
func (m *machine) letter(b byte) {
	if m.row.sort == "text" {
		ok, ends := known.goesOn(m.come, b, m.room)
		if !ok {
			m.err = told{input, m.at}
			return
		}
		m.come += string([]byte{b})
		if ends {
			m.come = ""
		}
	}
	m.string = append(m.string, b)
	m.room--
	if m.room == 0 {
		m.give(m.stringOf(), m.from)
	}
}

func (m *machine) stringOf() api.Value {
	switch m.row.sort {
	case "text":
		return text(string(m.string))
	case "bytes":
		return raw(string(m.string))
	}
	return extension(int8(m.kind), string(m.string))
}

// headed: perhaps the last byte of a head has come.
func (m *machine) headed() {
	if m.wide > 0 || m.untyped {
		return
	}
	switch m.row.sort {
	case "text", "bytes", "extension":
		m.room = m.n
		if m.n == 0 {
			m.give(m.stringOf(), m.from)
		}
	case "list", "map":
		m.opens()
	default:
		m.give(m.plain(), m.from)
	}
}

func (m *machine) plain() api.Value {
	switch m.row.sort {
	case "null":
		return null
	case "false":
		return no
	case "true":
		return yes
	case "single":
		return numberOf(float64(math.Float32frombits(uint32(m.n))))
	case "double":
		return numberOf(math.Float64frombits(m.n))
	case "unsigned":
		return wholeOf(new(big.Int).SetUint64(m.n))
	case "signed 1":
		return wholeOf(big.NewInt(int64(int8(m.n))))
	case "signed 2":
		return wholeOf(big.NewInt(int64(int16(m.n))))
	case "signed 4":
		return wholeOf(big.NewInt(int64(int32(m.n))))
	case "signed 8":
		return wholeOf(big.NewInt(int64(m.n)))
	}
	panic(m.row.sort)
}

func (m *machine) opens() {
	if len(m.parts) == 128 {
		m.err = told{limit, m.from}
		return
	}
	p := part{sort: m.row.sort, left: m.n, from: m.from}
	if p.sort == "map" {
		p.left *= 2
	}
	m.parts = append(m.parts, p)
	if p.left == 0 {
		m.ends()
	}
}

// ends: the innermost part has all that it waited for.
func (m *machine) ends() {
	p := m.parts[len(m.parts)-1]
	m.parts = m.parts[:len(m.parts)-1]
	if p.sort == "map" {
		m.give(inOrder(p.kids), p.from)
		return
	}
	m.give(list(p.kids...), p.from)
}

// inOrder is the map of keys and values in turn.
func inOrder(kids []api.Value) api.Value {
	var pairs [][]api.Value
	for pair := range slices.Chunk(kids, 2) {
		pairs = append(pairs, pair)
	}
	slices.SortFunc(pairs, func(a, b []api.Value) int { return value.Compare(a[0], b[0]) })
	return object(slices.Concat(pairs...)...)
}

// stands: is one of the keys this value?
func stands(key api.Value, kids []api.Value) bool {
	for i := 0; i < len(kids); i += 2 {
		if same(kids[i], key) {
			return true
		}
	}
	return false
}

// give hands a value, whose item began at a place, to the part around it.
func (m *machine) give(v api.Value, from int) {
	if len(m.parts) == 0 {
		m.done, m.out = true, v
		return
	}
	p := &m.parts[len(m.parts)-1]
	if p.sort == "map" && len(p.kids)%2 == 0 && stands(v, p.kids) {
		m.err = told{input, from}
		return
	}
	p.kids = append(p.kids, v)
	p.left--
	if p.left == 0 {
		m.ends()
	}
}

// wantsNext is what the document asks for of the item at a place.
func wantsNext(s string, at int) (api.Value, int, told) {
	switch {
	case at < 0 || at > len(s):
		return api.Value{}, 0, told{code: arg}
	case len(s) > 1048576:
		return api.Value{}, 0, told{limit, 1048576}
	}
	m := machine{at: at}
	for m.at < len(s) && !m.done {
		m.take(s[m.at])
		if m.err != (told{}) {
			return api.Value{}, 0, m.err
		}
	}
	if !m.done {
		return api.Value{}, 0, told{input, len(s)}
	}
	return m.out, m.at, told{}
}

// wants is what the document asks for of a document.
func wants(s string) (api.Value, told) {
	v, behind, e := wantsNext(s, 0)
	if e == (told{}) && behind < len(s) {
		return api.Value{}, told{input, behind}
	}
	return v, e
}

// has: does a node of this kind stand in a value?
func has(v api.Value, kind api.Kind) bool {
	return v.Kind == kind || slices.ContainsFunc(v.Kids, func(kid api.Value) bool { return has(kid, kind) })
}

// mayBe: P23.3 of what is read.
func mayBe(t *testing.T, s string, v api.Value) {
	t.Helper()
	if err := value.Check(v); err != nil || has(v, api.VTag) || has(v, api.VSimple) {
		t.Errorf("of %s is read %s: %v", hexed(s), show(v), err)
	}
}

// nextAnswers asks for the item at a place.
func nextAnswers(t *testing.T, s string, at int, want api.Value, behind int, e told) {
	t.Helper()
	v, n, err := packread.Next(s, at)
	if !same(v, want) || n != behind || tells(err) != e {
		t.Errorf("Next(%s, %d) = %s, %d, %v, want %s, %d, %v", hexed(s), at, show(v), n, err, show(want), behind, e)
	}
	if err == nil {
		mayBe(t, s, v)
	}
}

// answers asks for the value of a document.
func answers(t *testing.T, s string, want api.Value, e told) {
	t.Helper()
	v, err := packread.Read(s)
	if !same(v, want) || tells(err) != e {
		t.Errorf("Read(%s) = %s, %v, want %s, %v", hexed(s), show(v), err, show(want), e)
	}
	if err == nil {
		mayBe(t, s, v)
	}
}

// reads: the bytes are a document of this value, and an item of it wherever they stand.
func reads(t *testing.T, s string, want api.Value) {
	t.Helper()
	answers(t, s, want, told{})
	nextAnswers(t, s, 0, want, len(s), told{})
	if len(s) < 1000 {
		nextAnswers(t, "\x91"+s+"\xc1", 1, want, 1+len(s), told{})
	}
}

// fails: the answer is an error with this place, and nothing beside it.
func fails(t *testing.T, s string, code, at int) {
	t.Helper()
	answers(t, s, api.Value{}, told{code, at})
}

// failsAt: ErrInput at the place that a ^ marks among hexadecimal digits.
func failsAt(t *testing.T, marked string) {
	t.Helper()
	ahead, behind, ok := strings.Cut(marked, "^")
	if !ok || strings.Contains(behind, "^") {
		t.Fatalf("one mark is wanted: %q", marked)
	}
	fails(t, of(ahead+behind), input, len(of(ahead)))
}

func sameAsReference(t *testing.T, s string) {
	t.Helper()
	v, e := wants(s)
	answers(t, s, v, e)
	v, n, e := wantsNext(s, 0)
	nextAnswers(t, s, 0, v, n, e)
}

// The reference itself, held against what is known.
func TestReference(t *testing.T) {
	for _, c := range []struct {
		s    string
		want api.Value
	}{
		{"93 01 90 dc 00 01 c0", list(whole("1"), list(), list(null))}, {"82 a1 62 01 a1 61 02", object(text("a"), whole("2"), text("b"), whole("1"))}, {"df 00 00 00 01 80 dd 00 00 00 00", object(object(), list())},
		{"98 7f ff e0 cf ff ff ff ff ff ff ff ff d0 80 d1 00 05 d2 ff ff ff ff d3 80 00 00 00 00 00 00 00", list(whole("127"), whole("-1"), whole("-32"), whole("18446744073709551615"), whole("-128"), whole("5"), whole("-1"), whole("-9223372036854775808"))},
		{"97 ca 3f c0 00 00 cb 3f f0 00 00 00 00 00 00 ca 80 00 00 00 ca 7f 80 00 01 c0 c2 c3", list(float(0x3ff8000000000000), whole("1"), whole("0"), float(0x7ff8000000000000), null, no, yes)},
		{"97 a2 c3 a9 d9 01 61 da 00 00 c4 02 01 02 d4 05 01 c7 03 ff 61 62 63 c7 00 05", list(text("é"), text("a"), text(""), raw("\x01\x02"), extension(5, "\x01"), extension(-1, "abc"), extension(5, ""))},
	} {
		if v, e := wants(of(c.s)); !same(v, c.want) || e != (told{}) {
			t.Errorf("the reference has %s, %v for %s", show(v), e, c.s)
		}
	}
	for _, c := range []struct {
		s    string
		want told
	}{
		{"", told{input, 0}}, {"cd 01", told{input, 2}}, {"92 01", told{input, 2}}, {"c7 01", told{input, 2}}, {"d4 05", told{input, 2}}, {"db ff ff ff ff 61", told{input, 6}}, {"c1", told{input, 0}}, {"92 01 c1", told{input, 2}}, {"01 02", told{input, 1}},
		{"a1 ff", told{input, 1}}, {"a2 c3 28", told{input, 2}}, {"a1 c3", told{input, 1}}, {"a3 e2 82 c3", told{input, 3}}, {"82 01 02 01 03", told{input, 3}}, {"82 01 02 ca 3f 80 00 00 03", told{input, 3}}, {"82 01 02 01 c1", told{input, 3}},
		{strings.Repeat("91", 129), told{limit, 128}}, {strings.Repeat("91", 128) + "dc 00", told{input, 130}}, {strings.Repeat("00", 1048577), told{limit, 1048576}},
	} {
		if v, e := wants(of(c.s)); !same(v, api.Value{}) || e != c.want {
			t.Errorf("the reference has %s, %v for %.80s", show(v), e, c.s)
		}
	}
	for b, row := range rows {
		if (row.sort == "") != (b == 0xc1) {
			t.Errorf("the byte %02x begins %q", b, row.sort)
		}
	}
	for _, digits := range []string{"0", "1", "-1", "4294967296", "-18446744073709551617"} {
		if n := bigOf(whole(digits)); n.String() != digits {
			t.Errorf("the reference has %v for %s", n, digits)
		}
	}
}
