package diag

import (
	"math/bits"

	"crucible/api"
	"crucible/base"
	"crucible/ecma"
	"crucible/escape"
	"crucible/quot"
	"crucible/whole"
)

const (
	// undefined is the simple value that has a name.
	undefined = 23
	// mostDecimal is how many binary digits a whole number has at most that is told in decimal.
	mostDecimal = 4096
)

// writer puts a text together, and throws as soon as there is no room for it.
type writer struct{ out []byte }

// room goes on only where so many bytes have room.
func (w *writer) room(n int) {
	if n > api.MaxBytes-len(w.out) {
		panic(thrown{api.ErrLimit})
	}
}

func (w *writer) put(s string) {
	w.room(len(s))
	w.out = append(w.out, s...)
}

// value puts the text of one that may be.
func (w *writer) value(v api.Value) {
	opening, closing := "[", "]"
	behind := ""
	switch v.Kind {
	case api.VNull:
		w.put("null")
	case api.VBool:
		w.truth(v.N)
	case api.VInt:
		w.integer(v.Int)
	case api.VFloat:
		w.put(ecma.Show(v.Bits))
	case api.VText:
		w.text(v.Text)
	case api.VExt:
		w.put("ext(" + whole.Show(whole.From(int64(v.Ext))) + ", ")
		behind = ")"
		fallthrough
	case api.VBytes:
		w.bytes(v.Text)
		w.put(behind)
	case api.VTag:
		w.put(decimal(v.N))
		opening, closing = "(", ")"
		fallthrough
	case api.VList:
		w.put(opening)
		w.kids(v.Kids, ", ")
		w.put(closing)
	case api.VMap:
		w.put("{")
		w.kids(v.Kids, ": ", ", ")
		w.put("}")
	case api.VSimple:
		w.simple(v.N)
	}
}

func (w *writer) truth(n uint64) {
	if n == 0 {
		w.put("false")
		return
	}
	w.put("true")
}

func (w *writer) integer(x api.Int) {
	size := sizeInBits(x.Mag)
	if size <= mostDecimal {
		w.put(whole.Show(x))
		return
	}
	// However great the number is, no digit is made for which there is no room.
	w.room(size / 4)
	if x.Neg {
		w.put("-")
	}
	w.put("0x" + hexadecimal(x.Mag))
}

// sizeInBits is of a number's list, which has no nought at its end.
func sizeInBits(mag api.Nat) int {
	if len(mag) == 0 {
		return 0
	}
	last := len(mag) - 1
	return 32*last + bits.Len32(mag[last])
}

// hexadecimal is the digits of a number above 0 in base 16.
func hexadecimal(mag api.Nat) string {
	digits := base.Hex([]byte(quot.Bytes(mag)))
	if digits[0] == '0' {
		return digits[1:]
	}
	return digits
}

func decimal(n uint64) string {
	return quot.Digits(api.Nat{uint32(n), uint32(n >> 32)})
}

func (w *writer) text(s string) {
	w.room(len(s))
	literal, _ := escape.Quote(s)
	w.put(literal)
}

func (w *writer) bytes(s string) {
	w.room(len(s))
	w.put("h'" + base.Hex([]byte(s)) + "'")
}

// kids puts them one by one, and between them what stands there, by turns.
func (w *writer) kids(kids []api.Value, between ...string) {
	for i, kid := range kids {
		if i > 0 {
			w.put(between[(i-1)%len(between)])
		}
		w.value(kid)
	}
}

func (w *writer) simple(n uint64) {
	if n == undefined {
		w.put("undefined")
		return
	}
	w.put("simple(" + decimal(n) + ")")
}
