package typed

import (
	"strconv"

	"crucible/api"
	"crucible/number"
	"crucible/real"
	"crucible/whole"
)

// array is a typed array taken apart.
type array struct {
	layout
	bytes string
}

// arrayOf takes a value apart that may be; false, if it is no typed array.
func arrayOf(v api.Value) (array, bool) {
	if v.Kind != api.VTag || v.Kids[0].Kind != api.VBytes {
		return array{}, false
	}
	l, ok := layoutOf(v.N)
	if !ok || len(v.Kids[0].Text)%l.size() != 0 {
		return array{}, false
	}
	return array{l, v.Kids[0].Text}, true
}

// made is the typed array of the elements whose bits are told; ErrRep of the first of which there are none.
func made[T any](l []T, form layout, bits func(T) (uint64, bool)) (api.Value, error) {
	out := make([]byte, 0, len(l)*form.size())
	for i, x := range l {
		b, ok := bits(x)
		if !ok {
			return api.Value{}, refused("/" + strconv.Itoa(i))
		}
		for at := range form.size() {
			out = append(out, byte(b>>(8*form.place(at))))
		}
	}
	bytes := api.Value{Kind: api.VBytes, Text: string(out)}
	return api.Value{Kind: api.VTag, N: form.tag(), Kids: []api.Value{bytes}}, nil
}

// wide is the typed array of floats of 64 bits, which has every one of them.
func wide(l []float64) api.Value {
	v, _ := Floats(l, api.Float64, false)
	return v
}

func (a array) count() int {
	return len(a.bytes) / a.size()
}

// bits are those of an element.
func (a array) bits(i int) uint64 {
	var out uint64
	for at := range a.size() {
		out |= uint64(a.bytes[i*a.size()+at]) << (8 * a.place(at))
	}
	return out
}

// signed is an element of a kind of whole numbers with a sign; false, if the kind is another one.
func (a array) signed(i int) (int64, bool) {
	bits := a.bits(i)
	switch a.elem {
	case api.Int8:
		return int64(int8(bits)), true
	case api.Int16:
		return int64(int16(bits)), true
	case api.Int32:
		return int64(int32(bits)), true
	case api.Int64:
		return int64(bits), true
	}
	return 0, false
}

// natural is an element of a kind without a sign, which all stand ahead of the others; false, if the kind is another one.
func (a array) natural(i int) (uint64, bool) {
	return a.bits(i), a.elem < api.Int8
}

// fraction is an element of a kind of floats, which each have their number among those of 64 bits.
func (a array) fraction(i int) float64 {
	bits := a.bits(i)
	switch a.elem {
	case api.Float16:
		return real.FromHalf(uint16(bits))
	case api.Float32:
		return float64(real.Float32(uint32(bits)))
	}
	return real.Float(bits)
}

func (a array) whole(i int) (int64, bool) {
	if n, ok := a.signed(i); ok {
		return n, true
	}
	if n, ok := a.natural(i); ok {
		return int64(n), n < 1<<63
	}
	return real.Whole(a.fraction(i))
}

func (a array) float(i int) (float64, bool) {
	if n, ok := a.signed(i); ok {
		return real.FromWhole(n)
	}
	if n, ok := a.natural(i); ok {
		return fromNatural(n)
	}
	return a.fraction(i), true
}

// fromNatural is the float of a number; false, if none is just that.
func fromNatural(n uint64) (float64, bool) {
	if n < 1<<63 {
		return real.FromWhole(int64(n))
	}
	// From here on floats are even numbers, so that half of one is a whole number that an int64 has.
	half, ok := real.FromWhole(int64(n / 2))
	return 2 * half, ok && n%2 == 0
}

// value is an element as a value.
func (a array) value(i int) api.Value {
	if n, ok := a.signed(i); ok {
		return number.OfInt(whole.From(n))
	}
	if n, ok := a.natural(i); ok {
		return number.OfInt(api.Int{Mag: api.Nat{uint32(n), uint32(n >> 32)}})
	}
	return number.Of(real.Bits(a.fraction(i)))
}
