package packread

import (
	"strings"

	"crucible/api"
	"crucible/number"
	"crucible/whole"
)

func (r *reader) null(head) (api.Value, error) {
	return api.Value{Kind: api.VNull}, nil
}

func (r *reader) truth(h head) (api.Value, error) {
	return api.Value{Kind: api.VBool, N: h.n}, nil
}

// small is a number that the first byte is, with its highest bit as the sign.
func (r *reader) small(h head) (api.Value, error) {
	return number.OfInt(whole.From(int64(int8(h.n)))), nil
}

func (r *reader) natural(h head) (api.Value, error) {
	return number.OfInt(api.Int{Mag: api.Nat{uint32(h.n), uint32(h.n >> 32)}}), nil
}

// signed is a number of so many bytes.
func (r *reader) signed(h head) (api.Value, error) {
	digits, err := r.take(h.n)
	return number.OfInt(whole.FromTwos(digits)), err
}

func (r *reader) single(h head) (api.Value, error) { return number.Of(uint32(h.n)), nil }

func (r *reader) double(h head) (api.Value, error) { return number.Of(h.n), nil }

func (r *reader) bytes(h head) (api.Value, error) {
	s, err := r.take(h.n)
	return api.Value{Kind: api.VBytes, Text: strings.Clone(s)}, err
}

func (r *reader) extension(h head) (api.Value, error) {
	sort, err := r.take(1)
	if err != nil {
		return api.Value{}, err
	}
	s, err := r.take(h.n)
	return api.Value{Kind: api.VExt, Ext: int8(sort[0]), Text: strings.Clone(s)}, err
}

// list reads item by item: however many are announced, there are no more than bytes.
func (r *reader) list(h head) (api.Value, error) {
	if err := r.enter(h); err != nil {
		return api.Value{}, err
	}
	defer r.leave()
	var kids []api.Value
	for range h.n {
		kid, err := r.item()
		if err != nil {
			return api.Value{}, err
		}
		kids = append(kids, kid)
	}
	return api.Value{Kind: api.VList, Kids: kids}, nil
}
