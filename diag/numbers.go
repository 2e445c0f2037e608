package diag

import (
	"strings"

	"crucible/api"
	"crucible/ecma"
	"crucible/number"
	"crucible/quot"
	"crucible/whole"
)

const (
	inBase10 = "0123456789"
	inBase16 = inBase10 + "abcdefABCDEF"
	// mostShort is the greatest number that short reads.
	mostShort = 255
)

// number reads one, or a tag, which begins as one does.
func (r *reader) number() api.Value {
	neg := r.take("-")
	switch {
	case neg && r.sees("I"):
		return r.word("Infinity", api.Value{Kind: api.VFloat, Bits: signBit | infinite})
	case strings.HasPrefix(r.s[r.at:], "0x"):
		return r.hexadecimal(neg)
	}
	return r.decimal(neg)
}

// hexadecimal reads the size of a number in base 16.
func (r *reader) hexadecimal(neg bool) api.Value {
	r.all("0x")
	from := r.at
	r.some(inBase16)
	r.endNumber()
	digits := r.s[from:r.at]
	if len(digits)%2 == 1 {
		digits = "0" + digits
	}
	// No text is so long that its digits make more limbs than quot allows, here and in base 10.
	size, _ := quot.FromBytes(bytesOf(digits))
	return number.OfInt(api.Int{Neg: neg, Mag: size})
}

// decimal reads the size of a number in base 10, or a tag.
func (r *reader) decimal(neg bool) api.Value {
	from := r.at
	if !r.take("0") {
		r.some(inBase10)
	}
	rounded := r.sees(".eE")
	if r.take(".") {
		r.some(inBase10)
	}
	if r.take("eE") {
		r.take("+-")
		r.some(inBase10)
	}
	r.endNumber()
	digits := r.s[from:r.at]
	if rounded {
		return nearest(neg, digits)
	}
	size, _ := quot.Read(digits)
	x := api.Int{Neg: neg, Mag: size}
	if !neg && r.sees("(") {
		if n, ok := tagOf(x); ok {
			return r.tag(from, n)
		}
	}
	return number.OfInt(x)
}

// endNumber stands behind the last digit. Within a list, a map or a tag a number ends only where a byte comes behind it, so that at the end of the text even a key that stands twice is none yet.
func (r *reader) endNumber() {
	if r.atEnd() && r.around > 0 {
		panic(wrongAt(r.at))
	}
}

// nearest is the number of the nearest pattern to a JSON number that has this size.
func nearest(neg bool, size string) api.Value {
	bits, err := ecma.Read(size)
	if err != nil {
		// It is a JSON number, so that the only fault it can have is to be too great.
		bits = infinite
	}
	if neg {
		bits |= signBit
	}
	return number.Of(bits)
}

// tagOf is the number of a tag; false: no tag has this one.
func tagOf(x api.Int) (uint64, bool) {
	n, ok := whole.Uint64(x)
	return n, ok && n != 2 && n != 3
}

// tag reads what stands behind the number of one.
func (r *reader) tag(from int, n uint64) api.Value {
	r.enter(from)
	r.one("(")
	r.between()
	kid := r.value()
	r.between()
	r.one(")")
	r.leave()
	return api.Value{Kind: api.VTag, N: n, Kids: []api.Value{kid}}
}

func (r *reader) simple() api.Value {
	r.all("simple(")
	n := r.short(func(n int) bool { return n < 20 || n == undefined || n >= 32 })
	r.one(")")
	return api.Value{Kind: api.VSimple, N: uint64(n)}
}

func (r *reader) extension() api.Value {
	r.all("ext(")
	neg := r.take("-")
	n := r.short(func(n int) bool { return !neg && n < 128 || neg && 1 <= n && n <= 128 })
	if neg {
		n = -n
	}
	r.between()
	r.one(",")
	r.between()
	bytes := r.bytes()
	r.between()
	r.one(")")
	return api.Value{Kind: api.VExt, Ext: int8(n), Text: bytes}
}

// short reads a number up to mostShort in decimal, which is one of those that may be. A digit is taken only if one of these still begins so.
func (r *reader) short(may func(n int) bool) int {
	from, n := r.at, 0
	for r.sees(inBase10) && (r.at == from || n > 0) {
		more := 10*n + int(r.s[r.at]-'0')
		if !leads(more, may) {
			break
		}
		n = more
		r.at++
	}
	if r.at == from || !may(n) {
		panic(wrongAt(r.at))
	}
	return n
}

// leads: does one of the numbers that may be begin with these digits, up to mostShort?
func leads(n int, may func(n int) bool) bool {
	if n > mostShort {
		return false
	}
	if may(n) {
		return true
	}
	for digit := range 10 {
		if n > 0 && leads(10*n+digit, may) {
			return true
		}
	}
	return false
}
