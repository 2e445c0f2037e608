package jsonwrite

import (
	"strings"

	"crucible/api"
	"crucible/ecma"
	"crucible/escape"
	"crucible/number"
	"crucible/order"
	"crucible/utf"
)

// way of writing the nodes of a kind.
type way func(w *writer, node api.Value)

// ways tells how each kind is written that JSON has.
func ways() map[api.Kind]way {
	return map[api.Kind]way{
		api.VNull:  (*writer).null,
		api.VBool:  (*writer).truth,
		api.VInt:   (*writer).number,
		api.VFloat: (*writer).number,
		api.VText:  (*writer).text,
		api.VList:  (*writer).list,
		api.VMap:   (*writer).pairs,
	}
}

// writer puts the text of a value together.
type writer struct {
	ways map[api.Kind]way
	out  strings.Builder
}

// put refuses the value as soon as its text is too long: how much longer it would be is no matter.
func (w *writer) put(s string) {
	if len(s) > api.MaxBytes-w.out.Len() {
		refuseFor(api.ErrLimit)
	}
	w.out.WriteString(s)
}

func (w *writer) value(v api.Value) { w.ways[v.Kind](w, v) }

func (w *writer) null(api.Value) { w.put("null") }

func (w *writer) truth(v api.Value) {
	if v.N == 0 {
		w.put("false")
		return
	}
	w.put("true")
}

func (w *writer) number(v api.Value) {
	bits, _ := number.Bits(v)
	w.put(ecma.Show(bits))
}

func (w *writer) text(v api.Value) {
	literal, _ := escape.Quote(v.Text)
	w.put(literal)
}

func (w *writer) list(v api.Value) {
	w.put("[")
	for i, kid := range v.Kids {
		w.commaAhead(i)
		w.value(kid)
	}
	w.put("]")
}

func (w *writer) pairs(v api.Value) {
	w.put("{")
	for i, p := range byUnits(v.Kids) {
		w.commaAhead(i)
		w.value(p.key)
		w.put(":")
		w.value(p.behind)
	}
	w.put("}")
}

// commaAhead puts one ahead of each part but the first.
func (w *writer) commaAhead(i int) {
	if i > 0 {
		w.put(",")
	}
}

// pair of a map: a key, and the value that stands behind it.
type pair struct{ key, behind api.Value }

func (p pair) compare(q pair) int { return utf.Cmp(p.key.Text, q.key.Text) }

// byUnits are the pairs of a map in the order of their keys' code units, which is another one than that of values.
func byUnits(kids []api.Value) []pair {
	l := make([]pair, 0, len(kids)/2)
	for i := 0; i < len(kids); i += 2 {
		l = append(l, pair{kids[i], kids[i+1]})
	}
	return order.Sort(l, pair.compare)
}
