package cborwrite

import (
	"strings"

	"crucible/api"
	"crucible/head"
	"crucible/number"
	"crucible/order"
	"crucible/quot"
	"crucible/whole"
)

// The major types.
const (
	naturals uint8 = iota
	negatives
	byteStrings
	textStrings
	lists
	dictionaries
	tags
	others
)

// The arguments at which others have what is no simple value.
const (
	noArg   = 20 // false, and behind it true
	nullArg = 22
)

// The tags of great numbers, by the major type of the small ones: 2 and 3.
const greatTag = 2

// mostSmall is how many bytes the argument of a head has at most.
const mostSmall = 8

// kind of values: write puts the document of one.
type kind interface {
	write(w *writer)
}

// Each of them is a value of that kind.
type (
	null       api.Value
	truth      api.Value
	integer    api.Value
	float      api.Value
	text       api.Value
	byteString api.Value
	list       api.Value
	dictionary api.Value
	tag        api.Value
	simple     api.Value
)

// kindOf takes the values that may be and are no extensions.
func kindOf(v api.Value) kind {
	switch v.Kind {
	case api.VNull:
		return null(v)
	case api.VBool:
		return truth(v)
	case api.VInt:
		return integer(v)
	case api.VFloat:
		return float(v)
	case api.VText:
		return text(v)
	case api.VBytes:
		return byteString(v)
	case api.VList:
		return list(v)
	case api.VMap:
		return dictionary(v)
	case api.VTag:
		return tag(v)
	}
	return simple(v)
}

func (x null) write(w *writer)  { w.head(others, nullArg) }
func (x truth) write(w *writer) { w.head(others, noArg+x.N) }

func (x integer) write(w *writer) {
	major, size := naturals, x.Int
	if size.Neg {
		major, size = negatives, whole.Sub(whole.From(-1), size)
	}
	bytes := quot.Bytes(size.Mag)
	if len(bytes) <= mostSmall {
		w.head(major, argument(bytes))
		return
	}
	w.head(tags, greatTag+uint64(major))
	w.counted(byteStrings, bytes)
}

// argument is the number of a few bytes, the highest first.
func argument(bytes string) uint64 {
	arg := uint64(0)
	for i := range len(bytes) {
		arg = arg<<8 | uint64(bytes[i])
	}
	return arg
}

func (x float) write(w *writer) {
	// A float that may be has a pattern, and each width has a head.
	width, bits, _ := number.Narrow(api.Value(x))
	s, _ := head.Float(width, bits)
	w.put(s)
}

func (x text) write(w *writer)       { w.counted(textStrings, x.Text) }
func (x byteString) write(w *writer) { w.counted(byteStrings, x.Text) }

func (x list) write(w *writer) {
	w.head(lists, uint64(len(x.Kids)))
	for _, kid := range x.Kids {
		w.value(kid)
	}
}

// pair of a map: the documents of a key and of its value.
type pair struct{ key, behind string }

func (x dictionary) write(w *writer) {
	w.head(dictionaries, uint64(len(x.Kids)/2))
	// The pairs are written as they stand, which shows early that there are too many bytes, and then once more in order.
	from := len(w.out)
	var pairs []pair
	for i := 0; i < len(x.Kids) && !w.full; i += 2 {
		pairs = append(pairs, pair{w.written(x.Kids[i]), w.written(x.Kids[i+1])})
	}
	w.backTo(from)
	for _, p := range order.Sort(pairs, func(a, b pair) int { return strings.Compare(a.key, b.key) }) {
		w.put(p.key)
		w.put(p.behind)
	}
}

func (x tag) write(w *writer) {
	w.head(tags, x.N)
	w.value(x.Kids[0])
}

func (x simple) write(w *writer) { w.head(others, x.N) }
