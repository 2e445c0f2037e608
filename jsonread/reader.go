package jsonread

import (
	"maps"
	"slices"
	"strings"

	"crucible/api"
	"crucible/ecma"
	"crucible/escape"
	"crucible/fault"
	"crucible/number"
)

const (
	blanks = " \t\n\r"
	// inNumbers are the bytes of which numbers are made; none of them can stand right behind one.
	inNumbers = "+-.0123456789Ee"
)

// reader makes a value of a JSON text. A scanner has been through all of it, so that each thing stands where it must; what a scanner does not look at is looked at here, from left to right, and the first thing that is wrong ends it by a panic.
type reader struct {
	s  string
	at int
}

// next is the first byte from here on that is no blank.
func (r *reader) next() byte {
	for strings.IndexByte(blanks, r.s[r.at]) >= 0 {
		r.at++
	}
	return r.s[r.at]
}

func (r *reader) value() api.Value {
	switch r.next() {
	case 'n':
		return r.word("null", api.Value{Kind: api.VNull})
	case 'f':
		return r.word("false", api.Value{Kind: api.VBool})
	case 't':
		return r.word("true", api.Value{Kind: api.VBool, N: 1})
	case '"':
		return textOf(r.literal())
	case '[':
		return r.list()
	case '{':
		return r.object()
	}
	return r.number()
}

func (r *reader) word(word string, says api.Value) api.Value {
	r.at += len(word)
	return says
}

func (r *reader) number() api.Value {
	size := len(r.s) - r.at - len(strings.TrimLeft(r.s[r.at:], inNumbers))
	bits, err := ecma.Read(r.s[r.at : r.at+size])
	orGiveUp(fault.Shift(err, r.at))
	r.at += size
	return number.Of(bits)
}

func (r *reader) literal() string {
	text, behind, err := escape.Scan(r.s, r.at)
	orGiveUp(err)
	r.at = behind
	return text
}

func textOf(s string) api.Value { return api.Value{Kind: api.VText, Text: s} }

// parts takes all between two brackets, and the brackets.
func (r *reader) parts(closing byte, part func()) {
	r.at++
	for r.next() != closing {
		part()
		if r.next() == ',' {
			r.at++
		}
	}
	r.at++
}

func (r *reader) list() api.Value {
	var kids []api.Value
	r.parts(']', func() { kids = append(kids, r.value()) })
	return api.Value{Kind: api.VList, Kids: kids}
}

func (r *reader) object() api.Value {
	met := map[string]api.Value{}
	r.parts('}', func() {
		key := r.newKey(met)
		met[key] = r.value()
	})
	return mapOf(met)
}

// newKey takes a key, which none of those that have been met is, and the colon behind it.
func (r *reader) newKey(met map[string]api.Value) string {
	at := r.at
	key := r.literal()
	if _, ok := met[key]; ok {
		orGiveUp(&api.Fault{Err: api.ErrInput, At: at})
	}
	r.next()
	r.at++
	return key
}

// mapOf makes the map of all pairs. Texts rise as their bytes do.
func mapOf(met map[string]api.Value) api.Value {
	kids := make([]api.Value, 0, 2*len(met))
	for _, key := range slices.Sorted(maps.Keys(met)) {
		kids = append(kids, textOf(key), met[key])
	}
	return api.Value{Kind: api.VMap, Kids: kids}
}
