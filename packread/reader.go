package packread

import "crucible/api"

// reader goes through bytes, from the place at on. What its calls answer beside an error means nothing, and where it stands neither.
type reader struct {
	s  string
	at int
	// around is how many containers are open.
	around int
}

// head is what the methods that read on behind a first byte are handed.
type head struct {
	// from is the place of the first byte.
	from int
	// n is the number that the first byte says, or the bytes behind it.
	n uint64
}

// begun is what a first byte begins.
type begun struct {
	// rest is the method of the reader that reads what is left of the item, and answers the value of all.
	rest   func(head) (api.Value, error)
	handed head
	// wide is in how many bytes behind the first one n stands; 0: it is known.
	wide int
}

// item reads a whole one.
func (r *reader) item() (api.Value, error) {
	from := r.at
	first, err := r.take(1)
	if err != nil {
		return api.Value{}, err
	}
	b := r.begins(first[0])
	if b.rest == nil {
		return api.Value{}, wrongAt(from)
	}
	b.handed.from = from
	if b.wide > 0 {
		digits, err := r.take(uint64(b.wide))
		if err != nil {
			return api.Value{}, err
		}
		b.handed.n = joined(digits)
	}
	return b.rest(b.handed)
}

// take goes on by so many bytes.
func (r *reader) take(n uint64) (string, error) {
	if n > uint64(len(r.s)-r.at) {
		return "", wrongAt(len(r.s))
	}
	from := r.at
	r.at += int(n)
	return r.s[from:r.at], nil
}

// joined is the number that bytes are, at most eight of them.
func joined(digits string) (n uint64) {
	for i := range len(digits) {
		n = n<<8 | uint64(digits[i])
	}
	return n
}

// enter goes into a container, leave out of it.
func (r *reader) enter(h head) error {
	if r.around == api.MaxDepth {
		return limitAt(h.from)
	}
	r.around++
	return nil
}

func (r *reader) leave() { r.around-- }
