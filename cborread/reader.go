package cborread

import (
	"strings"

	"crucible/api"
	"crucible/head"
)

// open is the information of a head that does not tell how much there is, and of the break that ends it.
const open uint8 = 31

// reader goes through bytes, from the place at on. What its calls answer beside an error means nothing, and where it stands neither.
type reader struct {
	s  string
	at int
	// around is how many containers are open.
	around int
}

// begun is an item whose head has been read.
type begun struct {
	api.Head
	from int
}

func (b begun) isOpen() bool { return b.Info == open }

// item reads a whole one.
func (r *reader) item() (api.Value, error) {
	b, err := r.head()
	if err != nil {
		return api.Value{}, err
	}
	return itemOf(b).rest(r)
}

func (r *reader) head() (begun, error) {
	h, err := head.Read(r.s, r.at)
	if err != nil {
		return begun{}, err
	}
	from := r.at
	r.at += h.Size
	return begun{h, from}, nil
}

// next is what the first byte of the next head says, which tells before the head is read that it may not stand there; false: there is none.
func (r *reader) next() (major, info uint8, ok bool) {
	if r.at == len(r.s) {
		return 0, 0, false
	}
	return r.s[r.at] >> 5, r.s[r.at] & 31, true
}

// atBreak goes on behind a break, if one stands here.
func (r *reader) atBreak() bool {
	major, info, ok := r.next()
	if !ok || major != others || info != open {
		return false
	}
	r.at++
	return true
}

// each reads part by part: as many as the head says, or all up to a break. However many it says, there are no more than bytes.
func (r *reader) each(b begun, part func() error) error {
	for n := uint64(0); b.isOpen() || n < b.Arg; n++ {
		if b.isOpen() && r.atBreak() {
			return nil
		}
		if err := part(); err != nil {
			return err
		}
	}
	return nil
}

// enter goes into a container, leave out of it.
func (r *reader) enter(b begun) error {
	if r.around == api.MaxDepth {
		return limitAt(b.from)
	}
	r.around++
	return nil
}

func (r *reader) leave() { r.around-- }

// joined is what stands behind a head of bytes or of a text, in one piece or in several. take reads the piece that has so many bytes.
func (r *reader) joined(b begun, take func(n uint64) (string, error)) (string, error) {
	if !b.isOpen() {
		s, err := take(b.Arg)
		return strings.Clone(s), err
	}
	var out strings.Builder
	err := r.each(b, func() error {
		piece, err := r.pieceOf(b.Major)
		if err != nil {
			return err
		}
		s, err := take(piece.Arg)
		out.WriteString(s)
		return err
	})
	return out.String(), err
}

// pieceOf reads the head of a piece.
func (r *reader) pieceOf(major uint8) (begun, error) {
	if m, info, ok := r.next(); ok && (m != major || info == open) {
		return begun{}, wrongAt(r.at)
	}
	return r.head()
}

// bytes takes so many of them.
func (r *reader) bytes(n uint64) (string, error) {
	if n > uint64(len(r.s)-r.at) {
		return "", wrongAt(len(r.s))
	}
	from := r.at
	r.at += int(n)
	return r.s[from:r.at], nil
}
