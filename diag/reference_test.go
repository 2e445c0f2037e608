package diag_test

import (
	"encoding/hex"
	"encoding/json"
	"errors"
	"fmt"
	"maps"
	"math"
	"math/big"
	"regexp"
	"slices"
	"strconv"
	"strings"
	"sync"
	"testing"

	"crucible/api"
	"crucible/diag"
	"crucible/value"
)

const (
	plus     = 0x7ff0000000000000
	minus    = 0xfff0000000000000
	noNumber = 0x7ff8000000000000
	half3    = 0x3ff8000000000000 // 1.5
)

var (
	null      = api.Value{Kind: api.VNull}
	no        = api.Value{Kind: api.VBool}
	yes       = api.Value{Kind: api.VBool, N: 1}
	undefined = simple(23)
	none      = api.Value{}
)

func text(s string) api.Value               { return api.Value{Kind: api.VText, Text: s} }
func raw(s string) api.Value                { return api.Value{Kind: api.VBytes, Text: s} }
func float(bits uint64) api.Value           { return api.Value{Kind: api.VFloat, Bits: bits} }
func simple(n uint64) api.Value             { return api.Value{Kind: api.VSimple, N: n} }
func ext(kind int8, bytes string) api.Value { return api.Value{Kind: api.VExt, Ext: kind, Text: bytes} }
func list(l ...api.Value) api.Value         { return api.Value{Kind: api.VList, Kids: l} }
func object(l ...api.Value) api.Value       { return api.Value{Kind: api.VMap, Kids: l} }

func tag(n uint64, v api.Value) api.Value {
	return api.Value{Kind: api.VTag, N: n, Kids: []api.Value{v}}
}

// whole is a whole number by its decimal digits, or those in another base behind 0x and the like.
func whole(digits string) api.Value {
	n, ok := new(big.Int).SetString(digits, 0)
	if !ok {
		panic(digits)
	}
	return wholeOf(n)
}

func num(n int64) api.Value { return wholeOf(big.NewInt(n)) }

func wholeOf(n *big.Int) api.Value {
	out := api.Value{Kind: api.VInt, Int: api.Int{Neg: n.Sign() < 0}}
	bytes := new(big.Int).Abs(n).Bytes()
	for len(bytes)%4 != 0 {
		bytes = append([]byte{0}, bytes...)
	}
	for i := len(bytes); i > 0; i -= 4 {
		out.Int.Mag = append(out.Int.Mag, uint32(bytes[i-4])<<24|uint32(bytes[i-3])<<16|uint32(bytes[i-2])<<8|uint32(bytes[i-1]))
	}
	return out
}

// bigOf undoes wholeOf.
func bigOf(v api.Value) *big.Int {
	out := new(big.Int)
	for _, limb := range slices.Backward(v.Int.Mag) {
		out.Add(out.Lsh(out, 32), new(big.Int).SetUint64(uint64(limb)))
	}
	if v.Int.Neg {
		out.Neg(out)
	}
	return out
}

// numberOf is the number value of a float of the language.
func numberOf(f float64) api.Value {
	switch {
	case math.IsNaN(f):
		return float(noNumber)
	case math.IsInf(f, 0) || f != math.Trunc(f):
		return float(math.Float64bits(f))
	}
	n, _ := big.NewFloat(f).Int(nil)
	return wholeOf(n)
}

// inOrder is the map of these pairs.
func inOrder(kids []api.Value) api.Value {
	pairs := slices.Collect(slices.Chunk(kids, 2))
	slices.SortFunc(pairs, func(a, b []api.Value) int { return value.Compare(a[0], b[0]) })
	return object(slices.Concat(pairs...)...)
}

// stands: is it one of the keys of these pairs?
func stands(key api.Value, kids []api.Value) bool {
	for pair := range slices.Chunk(kids, 2) {
		if same(pair[0], key) {
			return true
		}
	}
	return false
}

// nested puts a value in n lists.
func nested(n int, v api.Value) api.Value {
	for range n {
		v = list(v)
	}
	return v
}

func same(a, b api.Value) bool {
	return a.Kind == b.Kind && a.N == b.N && a.Int.Neg == b.Int.Neg && slices.Equal(a.Int.Mag, b.Int.Mag) && a.Bits == b.Bits && a.Ext == b.Ext && a.Text == b.Text && slices.EqualFunc(a.Kids, b.Kids, same)
}

func cut(s string) string {
	if len(s) > 300 {
		return s[:200] + ".." + s[len(s)-80:]
	}
	return s
}

func dump(v api.Value) string { return cut(fmt.Sprintf("%+q", fmt.Sprintf("%+v", v))) }

// told is which of api's errors an error is, by its number, and its place; of nil nothing.
type told struct {
	code, at int
	path     string
}

const (
	arg   = 1
	input = 3
	limit = 5
)

// tells is what an error tells, and whether it has a Fault; the code is -1, if it is none of api's or several.
func tells(err error) (out told, placed bool) {
	if err == nil {
		return told{}, false
	}
	for i, e := range []error{api.ErrArg, api.ErrNil, api.ErrInput, api.ErrRep, api.ErrLimit, api.ErrNone, api.ErrBusy, api.ErrHandle, api.ErrKey, api.ErrStopped, api.ErrScript} {
		if errors.Is(err, e) && out.code != 0 {
			return told{code: -1}, false
		}
		if errors.Is(err, e) {
			out.code = i + 1
		}
	}
	if out.code == 0 {
		return told{code: -1}, false
	}
	var fault *api.Fault
	if errors.As(err, &fault) {
		out.at, out.path, placed = fault.At, fault.Path, true
	}
	return out, placed
}

// answers asks Read, whose errors all have a place.
func answers(t *testing.T, s string, want api.Value, e told) {
	t.Helper()
	v, err := diag.Read(s)
	got, placed := tells(err)
	if !same(v, want) || got != e || placed != (e.code != 0) {
		t.Errorf("Read(%q) = %s, %v, want %s, %v", cut(s), dump(v), err, dump(want), e)
	}
}

func reads(t *testing.T, s string, want api.Value) {
	t.Helper()
	answers(t, s, want, told{})
}

func fails(t *testing.T, s string, code, at int) {
	t.Helper()
	answers(t, s, none, told{code: code, at: at})
}

// failsAt takes the place at which it is ErrInput from a ^ in s.
func failsAt(t *testing.T, s string) {
	t.Helper()
	ahead, behind, ok := strings.Cut(s, "^")
	if !ok {
		t.Fatalf("no place in %q", s)
	}
	fails(t, ahead+behind, input, len(ahead))
}

func shows(t *testing.T, v api.Value, want string) {
	t.Helper()
	if s, err := diag.Show(v); s != want || err != nil {
		t.Errorf("Show(%s) = %q, %v, want %q", dump(v), cut(s), err, cut(want))
	}
}

// refused asks Show of what has no text, and wants the place that value.Check tells.
func refused(t *testing.T, v api.Value, code int, path string) {
	t.Helper()
	s, err := diag.Show(v)
	if got, placed := tells(err); s != "" || got != (told{code: code, path: path}) || !placed {
		t.Errorf("Show(%s) = %q, %v, want %d at %q", dump(v), cut(s), err, code, path)
	}
}

// tooLong asks Show of a value whose text is too long, of which no place is told.
func tooLong(t *testing.T, v api.Value) {
	t.Helper()
	s, err := diag.Show(v)
	if got, _ := tells(err); s != "" || got != (told{code: limit}) {
		t.Errorf("Show(%s) = %q, %v", dump(v), cut(s), err)
	}
}

// The reference of Show: the chapter's table on the language's own library.

// shown is the text of a value that may be.
func shown(v api.Value) string {
	switch v.Kind {
	case api.VNull:
		return "null"
	case api.VBool:
		return strconv.FormatBool(v.N == 1)
	case api.VInt:
		return shownWhole(bigOf(v))
	case api.VFloat:
		return shownFloat(math.Float64frombits(v.Bits))
	case api.VText:
		return shownText(v.Text)
	case api.VBytes:
		return fmt.Sprintf("h'%x'", v.Text)
	case api.VList:
		return "[" + strings.Join(shownAll(v.Kids), ", ") + "]"
	case api.VMap:
		all := ""
		for i, kid := range shownAll(v.Kids) {
			all += kid + []string{": ", ", "}[i%2]
		}
		return "{" + strings.TrimSuffix(all, ", ") + "}"
	case api.VTag:
		return fmt.Sprintf("%d(%s)", v.N, shown(v.Kids[0]))
	case api.VSimple:
		if v.N == 23 {
			return "undefined"
		}
		return fmt.Sprintf("simple(%d)", v.N)
	}
	return fmt.Sprintf("ext(%d, h'%x')", v.Ext, v.Text)
}

func shownAll(l []api.Value) (out []string) {
	for _, v := range l {
		out = append(out, shown(v))
	}
	return out
}

func shownWhole(n *big.Int) string {
	if n.BitLen() > 4096 {
		return fmt.Sprintf("%#x", n)
	}
	return n.String()
}

func shownFloat(f float64) string {
	switch {
	case math.IsNaN(f):
		return "NaN"
	case math.IsInf(f, 0):
		return strings.TrimPrefix(strconv.FormatFloat(f, 'f', -1, 64), "+") + "inity"
	}
	// The language's own JSON lays numbers out as ECMAScript does.
	out, _ := json.Marshal(f)
	return string(out)
}

func shownText(s string) string {
	var out strings.Builder
	for _, c := range s {
		letter := map[rune]string{'"': `\"`, '\\': `\\`, 8: `\b`, 9: `\t`, 10: `\n`, 12: `\f`, 13: `\r`}[c]
		switch {
		case letter != "":
			out.WriteString(letter)
		case c < 32:
			fmt.Fprintf(&out, `\u%04x`, c)
		default:
			out.WriteRune(c)
		}
	}
	return `"` + out.String() + `"`
}

// The reference of Read. Where a text goes wrong is told by the chapter's words as a grammar, which is followed on all ways at once: a way is what is still to come on it, words with blanks between them. What stands ahead of that place is cut into words by expressions, which is all that is needed to tell lists, maps, tags and keys there.

// made tells the ways in which what a word stands for is made. What is neither here nor in spans stands for itself, byte by byte.
func made() map[string][]string {
	out := map[string][]string{
		"text":     {"between value between"},
		"between":  {"", "blank between", "/ inRemark / between"},
		"inRemark": {"", "noSlash inRemark"},
		"value": {"n u l l", "f a l s e", "t r u e", "u n d e f i n e d", "I n f i n i t y", "- I n f i n i t y", "N a N", "minus size", "literal", "bytes", "[ between ]", "[ elements ]", "{ between }", "{ pairs }",
			"tagNumber ( between value between )", "s i m p l e ( simpleNumber )", "e x t ( extNumber between , between bytes between )"},
		"elements":        {"between value between furtherElements"},
		"furtherElements": {"", ", elements"},
		"pairs":           {"pair furtherPairs"},
		"furtherPairs":    {"", ", pairs"},
		"pair":            {"between value between : between value between"},
		"minus":           {"", "-"},
		"size":            {"0 x hex hexes", "whole fraction exponent"},
		"hexes":           {"", "hex hexes"},
		"whole":           {"0", "1to9 digits"},
		"digits":          {"", "digit digits"},
		"fraction":        {"", ". digit digits"},
		"exponent":        {"", "eE sign digit digits"},
		"sign":            {"", "+", "-"},
		"bytes":           {"h ' twoEach '"},
		"twoEach":         {"", "hex hex twoEach"},
		"literal":         {`" pieces "`},
		"pieces":          {"", "piece pieces"},
		"piece": {"plain", "c2-df 80-bf", "e0 a0-bf 80-bf", "e1-ef 80-bf 80-bf", "ed 80-9f 80-bf", "f0 90-bf 80-bf 80-bf", "f1-f3 80-bf 80-bf 80-bf", "f4 80-8f 80-bf 80-bf",
			`\ letter`, `\ u nod hex hex hex`, `\ u d-D 0to7 hex hex`, `\ u d-D 8toB hex hex \ u d-D ctoF hex hex`},
		"tagNumber": tagNumbers(),
		"upTo0":     {""},
	}
	for n := range 18 {
		out[fmt.Sprintf("upTo%d", n+1)] = []string{"", fmt.Sprintf("digit upTo%d", n)}
	}
	for n := range 256 {
		if n < 20 || n == 23 || n >= 32 {
			out["simpleNumber"] = append(out["simpleNumber"], apart(strconv.Itoa(n)))
		}
		out["extNumber"] = append(out["extNumber"], apart(strconv.Itoa(n-128)))
	}
	return out
}

// apart puts blanks between digits.
func apart(digits string) string { return strings.Join(strings.Split(digits, ""), " ") }

// tagNumbers: one digit but 2 and 3; from two to 19; 20 of them, which begin as the greatest number does and then have a lesser digit, or none.
func tagNumbers() []string {
	const greatest = "18446744073709551615"
	out := []string{"0", "1", "4to9", "1to9 digit upTo17", apart(greatest)}
	for i := range len(greatest) {
		for lesser := '0'; lesser < rune(greatest[i]); lesser++ {
			if i > 0 || lesser > '0' {
				out = append(out, apart(greatest[:i]+string(lesser))+strings.Repeat(" digit", len(greatest)-1-i))
			}
		}
	}
	return out
}

// spans are the bytes that a word may be, each span by its first and its last byte.
func spans() map[string]string {
	return map[string]string{
		"blank": "\x09\x0a\x0d\x0d\x20\x20", "noSlash": "\x00\x2e\x30\xff", "1to9": "19", "4to9": "49", "digit": "09", "eE": "eeEE",
		"plain": "\x20!#[]\x7f", "letter": `""\\//bbffnnrrtt`,
		"hex": "09afAF", "nod": "09acefACEF", "d-D": "ddDD", "0to7": "07", "8toB": "89abAB", "ctoF": "cfCF",
		"80-bf": "\x80\xbf", "c2-df": "\xc2\xdf", "e0": "\xe0\xe0", "a0-bf": "\xa0\xbf", "e1-ef": "\xe1\xec\xee\xef", "ed": "\xed\xed", "80-9f": "\x80\x9f",
		"f0": "\xf0\xf0", "90-bf": "\x90\xbf", "f1-f3": "\xf1\xf3", "f4": "\xf4\xf4", "80-8f": "\x80\x8f",
	}
}

func within(b byte, spans string) bool {
	for i := 0; i < len(spans); i += 2 {
		if spans[i] <= b && b <= spans[i+1] {
			return true
		}
	}
	return false
}

// grammar is both, for each word what can come first of what it stands for, and, of short ways, what was asked before.
type grammar struct {
	made  map[string][]string
	spans map[string]string
	heads map[string][]head
	asked map[step][]string
}

// step is a way, and a byte that comes on it.
type step struct {
	way string
	b   byte
}

// head is a word for one byte, and what comes behind it; or nothing at all, where a word may stand for nothing.
type head struct{ word, behind string }

var theGrammar = sync.OnceValue(func() *grammar {
	g := &grammar{made: made(), spans: spans(), heads: map[string][]head{}, asked: map[step][]string{}}
	for word := range g.made {
		g.heads[word] = g.expand(word)
	}
	return g
})

func join(a, b string) string { return strings.TrimSpace(a + " " + b) }

// expand: which words for a byte can come first on a way, and what behind each.
func (g *grammar) expand(way string) []head {
	if way == "" {
		return []head{{}}
	}
	word, rest, _ := strings.Cut(way, " ")
	ways, ok := g.made[word]
	if !ok {
		return []head{{word, rest}}
	}
	var out []head
	for _, w := range ways {
		for _, h := range g.expand(w) {
			if h.word == "" {
				out = append(out, g.expand(rest)...)
			} else {
				out = append(out, head{h.word, join(h.behind, rest)})
			}
		}
	}
	return out
}

func (g *grammar) fits(word string, b byte) bool {
	if spans, ok := g.spans[word]; ok {
		return within(b, spans)
	}
	return word == string(rune(b))
}

// follow takes in what is to come on a way behind a byte.
func (g *grammar) follow(way string, b byte, into map[string]bool) {
	word, rest, _ := strings.Cut(way, " ")
	heads, ok := g.heads[word]
	if !ok {
		heads = []head{{word, ""}}
	}
	for _, h := range heads {
		switch {
		case h.word == "" && rest != "":
			g.follow(rest, b, into)
		case h.word != "" && g.fits(h.word, b):
			into[join(h.behind, rest)] = true
		}
	}
}

// after is the ways on from a step.
func (g *grammar) after(x step) []string {
	if ways, ok := g.asked[x]; ok {
		return ways
	}
	next := map[string]bool{}
	g.follow(x.way, x.b, next)
	ways := slices.Collect(maps.Keys(next))
	if len(x.way) < 100 {
		g.asked[x] = ways
	}
	return ways
}

// empty: may all that is to come on a way be nothing?
func (g *grammar) empty(way string) bool {
	for word := range strings.FieldsSeq(way) {
		if !slices.Contains(g.heads[word], head{}) {
			return false
		}
	}
	return true
}

// goodFor is how many bytes of s are the beginning of a text; and whether all of it is one.
func goodFor(s string) (int, bool) {
	g := theGrammar()
	ways := []string{"text"}
	for i := range len(s) {
		var next []string
		for _, way := range ways {
			for _, w := range g.after(step{way, s[i]}) {
				if !slices.Contains(next, w) {
					next = append(next, w)
				}
			}
		}
		if len(next) == 0 {
			return i, false
		}
		ways = next
	}
	return len(s), slices.ContainsFunc(ways, g.empty)
}

const betweens = "(?:[\t\n\r ]|/[^/]*/)*"

var (
	skipped   = regexp.MustCompile("^" + betweens)
	literals  = regexp.MustCompile(`^"(?:[^"\\]|\\.)*"`)
	names     = regexp.MustCompile(`^(?:null|false|true|undefined|-?Infinity|NaN)`)
	byteWords = regexp.MustCompile(`^h'([0-9a-fA-F]*)'`)
	simples   = regexp.MustCompile(`^simple\(([0-9]+)\)`)
	exts      = regexp.MustCompile(`^ext\((-?[0-9]+)` + betweens + "," + betweens + `h'([0-9a-fA-F]*)'` + betweens + `\)`)
	tagWords  = regexp.MustCompile(`^([0-9]+)\(`)
	numerals  = regexp.MustCompile(`^-?[0-9][-+.0-9a-zA-Z]*`)
	numbers   = regexp.MustCompile(`^-?(?:0x[0-9a-fA-F]+|(?:0|[1-9][0-9]*)(?:\.[0-9]+)?(?:[eE][+-]?[0-9]+)?)$`)
)

// part is a list, a map or a tag that is open.
type part struct {
	opening byte
	tag     uint64
	from    int
	kids    []api.Value
}

func (p part) closed() api.Value {
	switch p.opening {
	case '[':
		return list(p.kids...)
	case '{':
		return inOrder(p.kids)
	}
	return tag(p.tag, p.kids[0])
}

// machine takes words that stand where they may.
type machine struct {
	s     string
	good  int
	at    int
	parts []part
	out   api.Value
	err   told
}

func (m *machine) open(p part) {
	if len(m.parts) == 128 {
		m.err = told{code: limit, at: p.from}
		return
	}
	m.parts = append(m.parts, p)
}

// add takes a value that began at a place and has ended.
func (m *machine) add(v api.Value, from int) {
	if len(m.parts) == 0 {
		m.out = v
		return
	}
	top := &m.parts[len(m.parts)-1]
	if top.opening == '{' && len(top.kids)%2 == 0 && stands(v, top.kids) {
		m.err = told{code: input, at: from}
	}
	top.kids = append(top.kids, v)
}

func (m *machine) close() {
	last := len(m.parts) - 1
	p := m.parts[last]
	m.parts = m.parts[:last]
	m.add(p.closed(), p.from)
}

// word takes one; false: none stands there whole.
func (m *machine) word() bool {
	rest := m.s[m.at:m.good]
	from := m.at
	found := func(e *regexp.Regexp) []string {
		l := e.FindStringSubmatch(rest)
		if l != nil {
			m.at += len(l[0])
		}
		return l
	}
	if rest == "" {
		return false
	}
	switch rest[0] {
	case '[', '{':
		m.at++
		m.open(part{opening: rest[0], from: from})
		return true
	case ']', '}', ')':
		m.at++
		m.close()
		return true
	case ',', ':':
		m.at++
		return true
	}
	if l := found(names); l != nil {
		m.add(map[string]api.Value{"null": null, "false": no, "true": yes, "undefined": undefined, "Infinity": float(plus), "-Infinity": float(minus), "NaN": float(noNumber)}[l[0]], from)
	} else if l := found(literals); l != nil {
		var s string
		if err := json.Unmarshal([]byte(l[0]), &s); err != nil {
			panic(err)
		}
		m.add(text(s), from)
	} else if l := found(byteWords); l != nil {
		m.add(raw(unhexed(l[1])), from)
	} else if l := found(simples); l != nil {
		n, _ := strconv.ParseUint(l[1], 10, 8)
		m.add(simple(n), from)
	} else if l := found(exts); l != nil {
		n, _ := strconv.ParseInt(l[1], 10, 8)
		m.add(ext(int8(n), unhexed(l[2])), from)
	} else if l := found(tagWords); l != nil {
		n, _ := strconv.ParseUint(l[1], 10, 64)
		m.open(part{opening: '(', tag: n, from: from})
	} else if l := found(numerals); l != nil && numbers.MatchString(l[0]) && (m.at < len(m.s) || len(m.parts) == 0) {
		m.add(numberSaid(l[0]), from)
	} else {
		return false
	}
	return true
}

func unhexed(digits string) string {
	out, err := hex.DecodeString(digits)
	if err != nil {
		panic(digits)
	}
	return string(out)
}

func numberSaid(s string) api.Value {
	if strings.Contains(s, "x") || !strings.ContainsAny(s, ".eE") {
		return whole(s)
	}
	f, _ := strconv.ParseFloat(s, 64)
	return numberOf(f)
}

// wants is what the reference answers.
func wants(s string) (api.Value, told) {
	if len(s) > 1<<20 {
		return none, told{code: limit, at: 1 << 20}
	}
	good, isText := goodFor(s)
	m := machine{s: s, good: good}
	for m.err == (told{}) {
		m.at += len(skipped.FindString(s[m.at:good]))
		if !m.word() {
			break
		}
	}
	switch {
	case m.err != (told{}):
		return none, m.err
	case !isText:
		return none, told{code: input, at: good}
	}
	return m.out, told{}
}

func sameAsReference(t *testing.T, s string) {
	t.Helper()
	v, e := wants(s)
	answers(t, s, v, e)
}
