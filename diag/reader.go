package diag

import (
	"strings"

	"crucible/api"
)

const blanks = "\t\n\r "

// reader goes through a text from the place at on. It looks at each byte only when it has gone by all ahead of it, so that the first thing that is wrong is the one that it throws.
type reader struct {
	s  string
	at int
	// around is how many lists, maps and tags are open.
	around int
}

// whole reads all of the text.
func (r *reader) whole() api.Value {
	r.between()
	v := r.value()
	r.between()
	if !r.atEnd() {
		panic(wrongAt(r.at))
	}
	return v
}

func (r *reader) atEnd() bool { return r.at == len(r.s) }

// sees: does one of these bytes stand here?
func (r *reader) sees(bytes string) bool {
	return !r.atEnd() && strings.IndexByte(bytes, r.s[r.at]) >= 0
}

// take goes on behind one of these bytes, if one stands here.
func (r *reader) take(bytes string) bool {
	if !r.sees(bytes) {
		return false
	}
	r.at++
	return true
}

// one takes one of these bytes, which must stand here.
func (r *reader) one(bytes string) byte {
	if !r.take(bytes) {
		panic(wrongAt(r.at))
	}
	return r.s[r.at-1]
}

// some takes these bytes as long as they come; one must.
func (r *reader) some(bytes string) {
	r.one(bytes)
	for r.take(bytes) {
	}
}

// all takes a word byte by byte.
func (r *reader) all(word string) {
	for i := range len(word) {
		r.one(word[i : i+1])
	}
}

// between takes blanks and remarks.
func (r *reader) between() {
	for r.take(blanks) || r.remark() {
	}
}

func (r *reader) remark() bool {
	if !r.take("/") {
		return false
	}
	size := strings.IndexByte(r.s[r.at:], '/')
	if size < 0 {
		panic(wrongAt(len(r.s)))
	}
	r.at += size + 1
	return true
}

// enter goes into a list, a map or a tag that begins at a place, leave out of it.
func (r *reader) enter(from int) {
	if r.around == api.MaxDepth {
		panic(limitAt(from))
	}
	r.around++
}

func (r *reader) leave() { r.around-- }
