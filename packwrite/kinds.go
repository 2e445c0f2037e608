package packwrite

import (
	"strings"

	"crucible/api"
	"crucible/ieee"
	"crucible/number"
	"crucible/order"
	"crucible/whole"
)

// writes picks what writes the values of a kind, of those that MessagePack has.
func (w *writer) writes(kind api.Kind) func(api.Value) {
	switch kind {
	case api.VBool:
		return w.truth
	case api.VInt:
		return w.integer
	case api.VFloat:
		return w.float
	case api.VText:
		return w.text
	case api.VBytes:
		return w.bytes
	case api.VList:
		return w.list
	case api.VMap:
		return w.dictionary
	case api.VExt:
		return w.extension
	}
	return w.null
}

func (w *writer) null(api.Value)    { w.byte(nothing) }
func (w *writer) truth(v api.Value) { w.byte(falsity + byte(v.N)) }

func (w *writer) integer(v api.Value) {
	if n, ok := whole.Uint64(v.Int); ok {
		w.head(naturals, n)
		return
	}
	if n, ok := whole.Int64(v.Int); ok {
		w.negative(n)
		return
	}
	w.float(v)
}

// negative puts a number below 0.
func (w *writer) negative(n int64) {
	if n >= leastAlone {
		w.byte(byte(n))
		return
	}
	for place := range len(families[negatives].firsts) {
		if isBelowIn(wide(place), n) {
			w.put(said(families[negatives].firsts[place], uint64(n), wide(place)))
			return
		}
	}
}

// float puts a number that has a pattern of 64 bits.
func (w *writer) float(v api.Value) {
	bits, _ := number.Bits(v)
	if narrow, ok := ieee.To[uint32](bits); ok {
		w.put(said(single, uint64(narrow), 4))
		return
	}
	w.put(said(double, bits, 8))
}

func (w *writer) text(v api.Value) {
	w.head(texts, uint64(len(v.Text)))
	w.put(v.Text)
}

func (w *writer) bytes(v api.Value) {
	w.head(byteStrings, uint64(len(v.Text)))
	w.put(v.Text)
}

func (w *writer) extension(v api.Value) {
	w.extensionHead(len(v.Text))
	w.byte(byte(v.Ext))
	w.put(v.Text)
}

// extensionHead puts the one of so many bytes, but for the type.
func (w *writer) extensionHead(n int) {
	for place := range len(sized) {
		if n == wide(place) {
			w.byte(sized[place])
			return
		}
	}
	w.head(extensions, uint64(n))
}

func (w *writer) list(v api.Value) {
	w.head(lists, uint64(len(v.Kids)))
	for _, kid := range v.Kids {
		w.value(kid)
	}
}

// pair of a map: the documents of a key and of its value.
type pair struct{ key, behind string }

func (w *writer) dictionary(v api.Value) {
	w.head(dictionaries, uint64(len(v.Kids)/2))
	// The pairs are written as they stand, which shows early that there are too many bytes, and then once more in order.
	from := len(w.out)
	var pairs []pair
	for i := 0; i < len(v.Kids) && !w.full; i += 2 {
		pairs = append(pairs, pair{w.written(w.value, v.Kids[i]), w.written(w.value, v.Kids[i+1])})
	}
	w.backTo(from)
	for _, p := range order.Sort(pairs, func(a, b pair) int { return strings.Compare(a.key, b.key) }) {
		w.put(p.key)
		w.put(p.behind)
	}
}
