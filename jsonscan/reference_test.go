package jsonscan_test

import (
	"encoding/json"
	"errors"
	"fmt"
	"maps"
	"slices"
	"strings"
	"sync"
	"testing"
	"unicode/utf8"

	"crucible/api"
	"crucible/jsonscan"
)

// The reference is the chapter's words as a grammar, which is followed on all ways at once. A way is what is still to come on it: words with blanks between them.

// made tells the ways in which what a word stands for is made. What is neither here nor in spans stands for itself, byte by byte.
func made() map[string][]string {
	return map[string][]string{
		"text":            {"blanks value blanks"},
		"blanks":          {"", "blank blanks"},
		"value":           {"n u l l", "t r u e", "f a l s e", "number", "literal", "[ blanks ]", "[ elements ]", "{ blanks }", "{ pairs }"},
		"elements":        {"blanks value blanks furtherElements"},
		"furtherElements": {"", ", elements"},
		"pairs":           {"pair furtherPairs"},
		"furtherPairs":    {"", ", pairs"},
		"pair":            {"blanks literal blanks : blanks value blanks"},
		"number":          {"minus whole fraction exponent"},
		"minus":           {"", "-"},
		"whole":           {"0", "1to9 digits"},
		"digits":          {"", "digit digits"},
		"fraction":        {"", ". digit digits"},
		"exponent":        {"", "eE sign digit digits"},
		"sign":            {"", "+", "-"},
		"literal":         {`" pieces "`},
		"pieces":          {"", "piece pieces"},
		"piece": {"plain", "c2-df 80-bf", "e0 a0-bf 80-bf", "e1-ef 80-bf 80-bf", "ed 80-9f 80-bf", "f0 90-bf 80-bf 80-bf", "f1-f3 80-bf 80-bf 80-bf", "f4 80-8f 80-bf 80-bf",
			`\ letter`, `\ u nod hex hex hex`, `\ u d-D 0to7 hex hex`, `\ u d-D 8toB hex hex \ u d-D ctoF hex hex`},
	}
}

// spans are the bytes that a word may be, each span by its first and its last byte.
func spans() map[string]string {
	return map[string]string{
		"blank": "\x09\x0a\x0d\x0d\x20\x20", "1to9": "19", "digit": "09", "eE": "eeEE",
		"plain": "\x20!#[]\x7f", "letter": `""\\//bbffnnrrtt`,
		"hex": "09afAF", "nod": "09acefACEF", "d-D": "ddDD", "0to7": "07", "8toB": "89abAB", "ctoF": "cfCF",
		"80-bf": "\x80\xbf", "c2-df": "\xc2\xdf", "e0": "\xe0\xe0", "a0-bf": "\xa0\xbf", "e1-ef": "\xe1\xec\xee\xef", "ed": "\xed\xed", "80-9f": "\x80\x9f",
		"f0": "\xf0\xf0", "90-bf": "\x90\xbf", "f1-f3": "\xf1\xf3", "f4": "\xf4\xf4", "80-8f": "\x80\x8f",
	}
}

func within(b byte, spans string) bool {
	for i := 0; i < len(spans); i += 2 {
		if spans[i] <= b && b <= spans[i+1] {
			return true
		}
	}
	return false
}

// grammar is both, and for each word what can come first of what it stands for.
type grammar struct {
	made  map[string][]string
	spans map[string]string
	heads map[string][]head
}

// head is a word for one byte, and what comes behind it; or nothing at all, where a word may stand for nothing.
type head struct{ word, behind string }

var theGrammar = sync.OnceValue(func() *grammar {
	g := &grammar{made: made(), spans: spans(), heads: map[string][]head{}}
	for word := range g.made {
		g.heads[word] = g.expand(word)
	}
	return g
})

func join(a, b string) string { return strings.TrimSpace(a + " " + b) }

// expand: which words for a byte can come first on a way, and what behind each.
func (g *grammar) expand(way string) []head {
	if way == "" {
		return []head{{}}
	}
	word, rest, _ := strings.Cut(way, " ")
	ways, ok := g.made[word]
	if !ok {
		return []head{{word, rest}}
	}
	var out []head
	for _, w := range ways {
		for _, h := range g.expand(w) {
			if h.word == "" {
				out = append(out, g.expand(rest)...)
			} else {
				out = append(out, head{h.word, join(h.behind, rest)})
			}
		}
	}
	return out
}

func (g *grammar) fits(word string, b byte) bool {
	if spans, ok := g.spans[word]; ok {
		return within(b, spans)
	}
	return word == string(rune(b))
}

// follow takes in what is to come on a way behind a byte.
func (g *grammar) follow(way string, b byte, into map[string]bool) {
	word, rest, _ := strings.Cut(way, " ")
	heads, ok := g.heads[word]
	if !ok {
		heads = []head{{word, ""}}
	}
	for _, h := range heads {
		switch {
		case h.word == "" && rest != "":
			g.follow(rest, b, into)
		case h.word != "" && g.fits(h.word, b):
			into[join(h.behind, rest)] = true
		}
	}
}

// empty: may all that is to come on a way be nothing?
func (g *grammar) empty(way string) bool {
	for word := range strings.FieldsSeq(way) {
		if !slices.Contains(g.heads[word], head{}) {
			return false
		}
	}
	return true
}

// model is a scanner in the document's words: what was written without an error, the ways on from there, and the error.
type model struct {
	ways []string
	size int
	err  error
}

func newModel() *model { return &model{ways: []string{"text"}} }

// open is how many lists and maps are open on a way: just those whose closing bracket is still to come.
func open(way string) int {
	n := 0
	for word := range strings.SplitSeq(way, " ") {
		if word == "]" || word == "}" {
			n++
		}
	}
	return n
}

func (m *model) depth() int { return open(m.ways[0]) }

func (m *model) after(b byte) []string {
	next := map[string]bool{}
	for _, way := range m.ways {
		theGrammar().follow(way, b, next)
	}
	return slices.Collect(maps.Keys(next))
}

func (m *model) take(b byte) {
	if m.err != nil {
		return
	}
	next := m.after(b)
	switch {
	case len(next) == 0:
		m.err = api.ErrInput
	case open(next[0]) > 128:
		m.err = api.ErrLimit
	default:
		m.ways = next
		m.size++
	}
}

func (m *model) write(s string) {
	for i := range len(s) {
		m.take(s[i])
	}
}

// whole: can nothing more come, on some way?
func (m *model) whole() bool { return slices.ContainsFunc(m.ways, theGrammar().empty) }

// state is all that a scanner answers: of Write or Close which error, and its place, how many bytes, how many open.
type state struct {
	write, close, writeAt, closeAt, size, depth int
}

func (s state) String() string {
	return fmt.Sprintf("Write %d At %d, Close %d At %d, Len %d, Depth %d", s.write, s.writeAt, s.close, s.closeAt, s.size, s.depth)
}

// The numbers of the errors that are told here.
const (
	fine  = 0
	none  = 2
	input = 3
	limit = 5
)

// kind is which of api's errors it is, and no other, and its place; -1, if it is none, several, or tells a Path.
func kind(err error) (which, at int) {
	if err == nil {
		return fine, 0
	}
	for i, e := range []error{api.ErrArg, api.ErrNil, api.ErrInput, api.ErrRep, api.ErrLimit, api.ErrNone, api.ErrBusy, api.ErrHandle, api.ErrKey, api.ErrStopped, api.ErrScript} {
		if !errors.Is(err, e) {
			continue
		}
		if which != 0 {
			return -1, 0
		}
		which = i + 1
	}
	var fault *api.Fault
	if which == 0 || errors.As(err, &fault) != (which != none) || fault != nil && fault.Path != "" {
		return -1, 0
	}
	if fault != nil {
		at = fault.At
	}
	return which, at
}

func (m *model) state() state {
	out := state{size: m.size, depth: m.depth()}
	switch {
	case m.err != nil:
		out.write, out.writeAt = map[error]int{api.ErrInput: input, api.ErrLimit: limit}[m.err], m.size
		out.close, out.closeAt = out.write, m.size
	case !m.whole():
		out.close, out.closeAt = input, m.size
	}
	return out
}

// wants is what the reference answers of a whole string.
func wants(s string) state {
	m := newModel()
	m.write(s)
	return m.state()
}

// stateOf asks a scanner for all, the last Write's error beside it.
func stateOf(s *jsonscan.Scanner, written error) state {
	out := state{size: s.Len(), depth: s.Depth()}
	out.write, out.writeAt = kind(written)
	out.close, out.closeAt = kind(s.Close())
	return out
}

// scanned is what a new scanner answers of chunks.
func scanned(chunks ...string) state {
	s := jsonscan.New()
	var err error
	for _, c := range chunks {
		err = s.Write(c)
	}
	return stateOf(s, err)
}

func scans(t *testing.T, s string, want state) {
	t.Helper()
	if got := scanned(s); got != want {
		t.Errorf("%q: %v, want %v", s, got, want)
	}
}

// isText: s is a JSON text, by the words and by the reference.
func isText(t *testing.T, s string) {
	t.Helper()
	want := state{size: len(s)}
	if w := wants(s); w != want {
		t.Errorf("the reference has %v for %q", w, s)
	}
	scans(t, s, want)
}

// isBegun: s is a beginning, and no JSON text.
func isBegun(t *testing.T, s string, depth int) {
	t.Helper()
	want := state{close: input, closeAt: len(s), size: len(s), depth: depth}
	if w := wants(s); w != want {
		t.Errorf("the reference has %v for %q", w, s)
	}
	scans(t, s, want)
}

// goesWrong: s is wrong At a place, with so many open there.
func goesWrong(t *testing.T, s string, at, depth int) {
	t.Helper()
	want := state{write: input, writeAt: at, close: input, closeAt: at, size: at, depth: depth}
	if w := wants(s); w != want {
		t.Errorf("the reference has %v for %q", w, s)
	}
	scans(t, s, want)
}

func sameAsReference(t *testing.T, s string) {
	t.Helper()
	scans(t, s, wants(s))
}

// rule makes numbers that look like any, the same in each run.
type rule struct{ state uint64 }

func (r *rule) next() uint64 {
	r.state += 0x9e3779b97f4a7c15
	z := r.state
	z = (z ^ z>>30) * 0xbf58476d1ce4e5b9
	z = (z ^ z>>27) * 0x94d049bb133111eb
	return z ^ z>>31
}

func (r *rule) below(n int) int { return int(r.next() % uint64(n)) }

func pick[T any](r *rule, l ...T) T { return l[r.below(len(l))] }

func (r *rule) blanks() string {
	out := ""
	for r.below(4) == 0 {
		out += pick(r, " ", "\t", "\n", "\r")
	}
	return out
}

func (r *rule) number() string {
	out := pick(r, "", "", "-") + pick(r, "0", "1", "9", "10", "907", "123456789012345678901234567890")
	if r.below(3) == 0 {
		out += "." + pick(r, "0", "5", "00", "125", "000000000000000000001")
	}
	if r.below(3) == 0 {
		out += pick(r, "e", "E") + pick(r, "", "+", "-") + pick(r, "0", "7", "00", "308", "99999")
	}
	return out
}

func (r *rule) literal() string {
	out := ""
	for range r.below(5) {
		out += pick(r, "a", " ", "~", "[", "]", "{", "}", ",", ":", "0", "\x7f", "\u0080", "\u00e9", "\u07ff", "\u0800", "\ud7ff", "\ue000", "\uffff", "\U00010000", "\U0001f600", "\U0010ffff",
			`\"`, `\\`, `\/`, `\b`, `\f`, `\n`, `\r`, `\t`, `\u0000`, `\u001f`, `\u00e9`, `\uD7FF`, `\ue000`, `\uFfFf`, `\ud800\udc00`, `\uD83D\uDe00`, `\udbff\udfff`)
	}
	return `"` + out + `"`
}

// value makes one with at most so many lists and maps in one another.
func (r *rule) value(depth int) string {
	if depth == 0 || r.below(3) == 0 {
		return pick(r, "null", "true", "false", r.number(), r.number(), r.literal(), r.literal())
	}
	isMap := r.below(2) == 0
	var parts []string
	for range r.below(4) {
		part := r.text(depth - 1)
		if isMap {
			part = r.blanks() + r.literal() + r.blanks() + ":" + part
		}
		parts = append(parts, part)
	}
	inner := strings.Join(parts, ",")
	if inner == "" {
		inner = r.blanks()
	}
	if isMap {
		return "{" + inner + "}"
	}
	return "[" + inner + "]"
}

// text makes a JSON text.
func (r *rule) text(depth int) string { return r.blanks() + r.value(depth) + r.blanks() }

// turns are bytes at which something turns in a JSON text.
const turns = "\x00\x08\x09\x0a\x0b\x0c\x0d\x0e\x1f !\"#+,-./0123789:;@ABCDEFG[\\]^`abcdefglnrstuvz{|}\x7f\x80\x8f\x90\x9f\xa0\xbf\xc0\xc1\xc2\xdf\xe0\xe1\xec\xed\xee\xef\xf0\xf1\xf3\xf4\xf5\xff"

func (r *rule) wild() byte {
	if r.below(5) == 0 {
		return byte(r.next())
	}
	return turns[r.below(len(turns))]
}

// anyString makes JSON texts, such with a byte left out, put in or changed, pieces of them, and bytes of any kind.
func (r *rule) anyString(depth int) string {
	s := []byte(r.text(depth))
	for range r.below(3) {
		at := r.below(len(s) + 1)
		switch r.below(6) {
		case 0:
			s = slices.Insert(s, at, r.wild())
		case 1:
			s = slices.Delete(s, at, min(at+1, len(s)))
		case 2:
			if at < len(s) {
				s[at] = r.wild()
			}
		case 3:
			s = s[:at]
		case 4:
			s = append(s, r.text(1)...)
		case 5:
			s = s[:min(at, 8)]
			for range r.below(6) {
				s = append(s, r.wild())
			}
		}
	}
	return string(s)
}

// cut makes chunks of a string, empty ones among them.
func (r *rule) cut(s string) []string {
	out := []string{}
	for s != "" {
		n := r.below(min(len(s), pick(r, 1, 3, 20)) + 1)
		out = append(out, s[:n])
		s = s[n:]
	}
	if r.below(2) == 0 {
		out = append(out, "")
	}
	return out
}

// The reference itself, held against the language's own library, which lets encodings and halves of pairs pass that are none.
func TestReference(t *testing.T) {
	r := rule{3}
	texts := 0
	for range 20000 {
		s := r.anyString(3)
		if !utf8.ValidString(s) || strings.Contains(strings.ToLower(s), `\ud`) {
			continue
		}
		is := wants(s).close == fine
		if is {
			texts++
		}
		if is != json.Valid([]byte(s)) {
			t.Errorf("the reference has %v for %q", wants(s), s)
		}
	}
	if texts < 4000 || texts > 16000 {
		t.Errorf("%d texts", texts)
	}
	for range 2000 {
		s := r.text(4)
		m := newModel()
		for i := range len(s) {
			m.take(s[i])
			if slices.ContainsFunc(m.ways, func(way string) bool { return open(way) != m.depth() }) {
				t.Errorf("the reference is of two minds what is open in %q", s[:i+1])
			}
		}
		if m.state() != (state{size: len(s)}) {
			t.Errorf("the reference has %v for %q", m.state(), s)
		}
	}
}

// The reference lets every encoding of a code point pass, and nothing else of up to two bytes.
func TestReferenceEncodings(t *testing.T) {
	for c := rune(32); c <= 1114111; c += 1 + c/97 {
		s := `"` + string(c) + `"`
		if c == '"' || c == '\\' || c >= 55296 && c <= 57343 {
			continue
		}
		if wants(s).close != fine {
			t.Errorf("the reference has %v for %q", wants(s), s)
		}
	}
	for b := range 65536 {
		s := string([]byte{byte(b >> 8), byte(b)})
		if strings.ContainsAny(s, `"\`) || s[0] < 32 || s[1] < 32 {
			continue
		}
		if w := wants(`"` + s + `"`); (w.close == fine) != utf8.ValidString(s) {
			t.Errorf("the reference has %v for %q between quotes", w, s)
		}
	}
}
