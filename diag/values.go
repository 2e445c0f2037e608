package diag

import (
	"strings"

	"crucible/api"
	"crucible/base"
	"crucible/escape"
)

const (
	noNumber = 0x7ff8000000000000
	infinite = 0x7ff0000000000000
	signBit  = 1 << 63
)

// value reads one: its first byte tells what it can be.
func (r *reader) value() api.Value {
	switch {
	case r.sees("-" + inBase10):
		return r.number()
	case r.sees(`"`):
		return r.text()
	case r.sees("["):
		return r.list()
	case r.sees("{"):
		return r.dictionary()
	case r.sees("h"):
		return api.Value{Kind: api.VBytes, Text: r.bytes()}
	case r.sees("s"):
		return r.simple()
	case r.sees("e"):
		return r.extension()
	}
	return r.named()
}

// named reads a value that has a name.
func (r *reader) named() api.Value {
	switch {
	case r.sees("n"):
		return r.word("null", api.Value{Kind: api.VNull})
	case r.sees("f"):
		return r.word("false", api.Value{Kind: api.VBool})
	case r.sees("t"):
		return r.word("true", api.Value{Kind: api.VBool, N: 1})
	case r.sees("u"):
		return r.word("undefined", api.Value{Kind: api.VSimple, N: undefined})
	case r.sees("I"):
		return r.word("Infinity", api.Value{Kind: api.VFloat, Bits: infinite})
	case r.sees("N"):
		return r.word("NaN", api.Value{Kind: api.VFloat, Bits: noNumber})
	}
	panic(wrongAt(r.at))
}

func (r *reader) word(word string, says api.Value) api.Value {
	r.all(word)
	return says
}

func (r *reader) text() api.Value {
	text, behind, err := escape.Scan(r.s, r.at)
	if err != nil {
		panic(thrown{err})
	}
	r.at = behind
	return api.Value{Kind: api.VText, Text: text}
}

func (r *reader) bytes() string {
	r.all("h'")
	from := r.at
	for r.take(inBase16) {
		r.one(inBase16)
	}
	digits := r.s[from:r.at]
	r.one("'")
	return bytesOf(digits)
}

// bytesOf is the bytes of digits in base 16, two for each.
func bytesOf(digits string) string {
	bytes, _ := base.FromHex(strings.ToLower(digits))
	return string(bytes)
}

func (r *reader) list() api.Value {
	var kids []api.Value
	r.parts("[", "]", func() { kids = append(kids, r.value()) })
	return api.Value{Kind: api.VList, Kids: kids}
}

func (r *reader) dictionary() api.Value {
	var met pairs
	r.parts("{", "}", func() { r.pair(&met) })
	return api.Value{Kind: api.VMap, Kids: met.inOrder()}
}

func (r *reader) pair(met *pairs) {
	from := r.at
	if key := r.value(); !met.addKey(key) {
		panic(wrongAt(from))
	}
	r.between()
	r.one(":")
	r.between()
	met.addValue(r.value())
}

// parts takes all from one bracket to the other.
func (r *reader) parts(opening, closing string, part func()) {
	r.enter(r.at)
	r.one(opening)
	r.between()
	for more := !r.take(closing); more; more = r.one(","+closing) == ',' {
		r.between()
		part()
		r.between()
	}
	r.leave()
}
