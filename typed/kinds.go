package typed

import (
	"crucible/api"
	"crucible/real"
)

// layout is how elements stand in the bytes of a typed array.
type layout struct {
	elem   api.Elem
	little bool
}

// firstTag is that of the first of layouts.
const firstTag = 64

// layouts are those of the tags, one by one; of a tag that is no typed array's the elem is none. The fifth tag is the first one over again: of a single byte the order is no matter.
var layouts = [...]layout{
	{api.Uint8, false}, {api.Uint16, false}, {api.Uint32, false}, {api.Uint64, false},
	{api.Uint8, false}, {api.Uint16, true}, {api.Uint32, true}, {api.Uint64, true},
	{api.Int8, false}, {api.Int16, false}, {api.Int32, false}, {api.Int64, false},
	{}, {api.Int16, true}, {api.Int32, true}, {api.Int64, true},
	{api.Float16, false}, {api.Float32, false}, {api.Float64, false}, {},
	{api.Float16, true}, {api.Float32, true}, {api.Float64, true},
}

// kinds are those of elements, by their numbers: how many bytes one has, and the tags of both orders of bytes.
var kinds = [...]struct {
	size        int
	tag, little uint64
}{
	api.Uint8:   {1, 64, 64},
	api.Uint16:  {2, 65, 69},
	api.Uint32:  {4, 66, 70},
	api.Uint64:  {8, 67, 71},
	api.Int8:    {1, 72, 72},
	api.Int16:   {2, 73, 77},
	api.Int32:   {4, 74, 78},
	api.Int64:   {8, 75, 79},
	api.Float16: {2, 80, 84},
	api.Float32: {4, 81, 85},
	api.Float64: {8, 82, 86},
}

// layoutOf is what a tag says; false, if it is no typed array's.
func layoutOf(tag uint64) (layout, bool) {
	if tag < firstTag || tag-firstTag >= uint64(len(layouts)) {
		return layout{}, false
	}
	l := layouts[tag-firstTag]
	return l, l.elem != api.ElemNone
}

// size is how many bytes an element has.
func (l layout) size() int {
	return kinds[l.elem].size
}

func (l layout) tag() uint64 {
	if l.little {
		return kinds[l.elem].little
	}
	return kinds[l.elem].tag
}

// place is how far up the byte that stands at i counts, in bytes.
func (l layout) place(i int) int {
	if l.little {
		return i
	}
	return l.size() - 1 - i
}

// has: is the whole number one of that kind?
func has(e api.Elem, n int64) bool {
	switch e {
	case api.Uint8:
		return n == int64(uint8(n))
	case api.Uint16:
		return n == int64(uint16(n))
	case api.Uint32:
		return n == int64(uint32(n))
	case api.Uint64:
		return n >= 0
	case api.Int8:
		return n == int64(int8(n))
	case api.Int16:
		return n == int64(int16(n))
	case api.Int32:
		return n == int64(int32(n))
	}
	// Int64 has all.
	return true
}

// pattern is a float's in the width of that kind; false, if none has its number.
func pattern(e api.Elem, x float64) (uint64, bool) {
	switch e {
	case api.Float16:
		half, ok := real.Half(x)
		return uint64(half), ok
	case api.Float32:
		single, ok := real.Single(x)
		return uint64(real.Bits32(single)), ok
	}
	return real.Bits(x), true
}
