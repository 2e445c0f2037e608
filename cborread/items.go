package cborread

import (
	"crucible/api"
	"crucible/number"
	"crucible/quot"
	"crucible/whole"
)

// The major types.
const (
	naturals uint8 = iota
	negatives
	byteStrings
	textStrings
	lists
	dictionaries
	tags
	others
)

// item is what the items of one major type are: rest reads what stands behind the head, and answers the value of all.
type item interface {
	rest(r *reader) (api.Value, error)
}

// Each of them is an item whose head has been read.
type (
	natural    begun
	negative   begun
	byteString begun
	textString begun
	list       begun
	dictionary begun
	tag        begun
	other      begun
)

func itemOf(b begun) item {
	switch b.Major {
	case naturals:
		return natural(b)
	case negatives:
		return negative(b)
	case byteStrings:
		return byteString(b)
	case textStrings:
		return textString(b)
	case lists:
		return list(b)
	case dictionaries:
		return dictionary(b)
	case tags:
		return tag(b)
	}
	return other(b)
}

func (x natural) rest(*reader) (api.Value, error) {
	return number.OfInt(sizeOf(x.Arg)), nil
}

func (x negative) rest(*reader) (api.Value, error) {
	return number.OfInt(flipped(sizeOf(x.Arg))), nil
}

// sizeOf is an argument as a whole number, perhaps with noughts at its end.
func sizeOf(arg uint64) api.Int {
	return api.Int{Mag: api.Nat{uint32(arg), uint32(arg >> 32)}}
}

// flipped is -1 less a number.
func flipped(x api.Int) api.Int { return whole.Sub(whole.From(-1), x) }

func (x byteString) rest(r *reader) (api.Value, error) {
	s, err := r.joined(begun(x), r.bytes)
	return api.Value{Kind: api.VBytes, Text: s}, err
}

func (x textString) rest(r *reader) (api.Value, error) {
	s, err := r.joined(begun(x), r.text)
	return api.Value{Kind: api.VText, Text: s}, err
}

func (x list) rest(r *reader) (api.Value, error) {
	if err := r.enter(begun(x)); err != nil {
		return api.Value{}, err
	}
	defer r.leave()
	var kids []api.Value
	err := r.each(begun(x), func() error {
		kid, err := r.item()
		kids = append(kids, kid)
		return err
	})
	return api.Value{Kind: api.VList, Kids: kids}, err
}

func (x dictionary) rest(r *reader) (api.Value, error) {
	if err := r.enter(begun(x)); err != nil {
		return api.Value{}, err
	}
	defer r.leave()
	var met pairs
	err := r.each(begun(x), func() error {
		from := r.at
		key, err := r.item()
		if err != nil {
			return err
		}
		if !met.addKey(key) {
			return wrongAt(from)
		}
		behind, err := r.item()
		met.addValue(behind)
		return err
	})
	if err != nil {
		return api.Value{}, err
	}
	return met.inOrder(), nil
}

func (x tag) rest(r *reader) (api.Value, error) {
	switch x.Arg {
	case 2:
		n, err := r.great()
		return number.OfInt(n), err
	case 3:
		n, err := r.great()
		return number.OfInt(flipped(n)), err
	}
	if err := r.enter(begun(x)); err != nil {
		return api.Value{}, err
	}
	defer r.leave()
	kid, err := r.item()
	return api.Value{Kind: api.VTag, N: x.Arg, Kids: []api.Value{kid}}, err
}

// great reads an item of bytes, as the number that they are.
func (r *reader) great() (api.Int, error) {
	if major, _, ok := r.next(); ok && major != byteStrings {
		return api.Int{}, wrongAt(r.at)
	}
	v, err := r.item()
	if err != nil {
		return api.Int{}, err
	}
	// No document is so long that its bytes make more limbs than quot allows.
	size, _ := quot.FromBytes(v.Text)
	return api.Int{Mag: size}, nil
}

func (x other) rest(*reader) (api.Value, error) {
	switch x.Info {
	case 20, 21:
		return api.Value{Kind: api.VBool, N: x.Arg - 20}, nil
	case 22:
		return api.Value{Kind: api.VNull}, nil
	case 24:
		if x.Arg < 32 {
			return api.Value{}, wrongAt(x.from + 1)
		}
	case 25:
		return number.Of(uint16(x.Arg)), nil
	case 26:
		return number.Of(uint32(x.Arg)), nil
	case 27:
		return number.Of(x.Arg), nil
	case open:
		// Where a break may be it is met before an item is looked for.
		return api.Value{}, wrongAt(x.from)
	}
	return api.Value{Kind: api.VSimple, N: x.Arg}, nil
}
