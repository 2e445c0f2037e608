package packwrite

import "crucible/api"

// writer puts a document together.
type writer struct {
	out []byte
	// full: the document is too long. It stays so, and nothing more is written.
	full bool
}

func (w *writer) put(s string) {
	if len(s) > api.MaxBytes-len(w.out) {
		w.full = true
	}
	if !w.full {
		w.out = append(w.out, s...)
	}
}

func (w *writer) byte(b byte) { w.put(string([]byte{b})) }

// head puts the first of a family that holds n.
func (w *writer) head(f family, n uint64) {
	if n < families[f].below {
		w.byte(families[f].zero + byte(n))
		return
	}
	for place := range len(families[f].firsts) {
		if first := families[f].firsts[place]; first != 0 && isIn(wide(place), n) {
			w.put(said(first, n, wide(place)))
			return
		}
	}
	// As many bytes or items as no head says make no document.
	w.full = true
}

// value puts its document.
func (w *writer) value(v api.Value) { w.unlessFull(w.writes(v.Kind), v) }

// unlessFull hands a value on to what writes it; where that is of no use any more it is not begun.
func (w *writer) unlessFull(write func(api.Value), v api.Value) {
	if !w.full {
		write(v)
	}
}

// written hands a value on, and answers what comes of it.
func (w *writer) written(write func(api.Value), v api.Value) string {
	from := len(w.out)
	write(v)
	return string(w.out[from:])
}

// backTo takes all away that stands behind a place.
func (w *writer) backTo(place int) { w.out = w.out[:place] }
