package cborwrite

import (
	"crucible/api"
	"crucible/head"
)

// writer puts a document together.
type writer struct {
	out []byte
	// full: the document is too long. It stays so, and nothing more is written.
	full bool
}

func (w *writer) put(s string) {
	if len(s) > api.MaxBytes-len(w.out) {
		w.full = true
	}
	if !w.full {
		w.out = append(w.out, s...)
	}
}

// head puts the shortest one. All that a value has have one.
func (w *writer) head(major uint8, arg uint64) {
	s, _ := head.Write(major, arg)
	w.put(s)
}

// counted puts a string of bytes behind its length.
func (w *writer) counted(major uint8, s string) {
	w.head(major, uint64(len(s)))
	w.put(s)
}

// value puts its document; where that is of no use any more it is not begun.
func (w *writer) value(v api.Value) {
	if !w.full {
		kindOf(v).write(w)
	}
}

// written puts the document of a value, and answers it.
func (w *writer) written(v api.Value) string {
	from := len(w.out)
	w.value(v)
	return string(w.out[from:])
}

// backTo takes all away that stands behind a place.
func (w *writer) backTo(place int) { w.out = w.out[:place] }
