package value

import (
	"crucible/api"
	"crucible/ieee"
	"crucible/utf"
)

// noNumber is the one pattern for no number that a value may have.
const noNumber = 0x7ff8000000000000

// fields is a set of those of a value's fields that not every kind uses.
type fields uint8

const (
	fieldN fields = 1 << iota
	fieldInt
	fieldBits
	fieldExt
	fieldText
	fieldKids
)

// uses tells by kind which fields it uses.
var uses = [...]fields{
	api.VNull:   0,
	api.VBool:   fieldN,
	api.VInt:    fieldInt,
	api.VFloat:  fieldBits,
	api.VText:   fieldText,
	api.VBytes:  fieldText,
	api.VList:   fieldKids,
	api.VMap:    fieldKids,
	api.VTag:    fieldN | fieldKids,
	api.VSimple: fieldN,
	api.VExt:    fieldExt | fieldText,
}

// mayBe tells whether a node may be by itself.
func mayBe(v api.Value) bool {
	if v.Kind < api.VNull || v.Kind > api.VExt {
		return false
	}
	return filled(v)&^uses[v.Kind] == 0 && fits(v)
}

// filled tells which fields of a node are not zero.
func filled(v api.Value) fields {
	var out fields
	if v.N != 0 {
		out |= fieldN
	}
	if v.Int.Neg || len(v.Int.Mag) > 0 {
		out |= fieldInt
	}
	if v.Bits != 0 {
		out |= fieldBits
	}
	if v.Ext != 0 {
		out |= fieldExt
	}
	if v.Text != "" {
		out |= fieldText
	}
	if len(v.Kids) > 0 {
		out |= fieldKids
	}
	return out
}

// fits tells whether the fields that a node's kind uses are as that kind has them.
func fits(v api.Value) bool {
	switch v.Kind {
	case api.VBool:
		return v.N <= 1
	case api.VInt:
		return isNormal(v.Int)
	case api.VFloat:
		return isFloat(v.Bits)
	case api.VText:
		return utf.Bad(v.Text) == len(v.Text)
	case api.VMap:
		return len(v.Kids)%2 == 0 && rise(v.Kids)
	case api.VTag:
		return v.N != 2 && v.N != 3 && len(v.Kids) == 1
	case api.VSimple:
		return v.N <= 19 || v.N == 23 || v.N >= 32 && v.N <= 255
	}
	return true
}

func isNormal(x api.Int) bool {
	n := len(x.Mag)
	if n == 0 {
		return !x.Neg
	}
	return x.Mag[n-1] != 0
}

// isFloat: what is a whole number has no pattern among values, so that each number has one value.
func isFloat(bits uint64) bool {
	switch ieee.Class(bits) {
	case api.ClassNaN:
		return bits == noNumber
	case api.ClassInf:
		return true
	}
	_, isWhole := ieee.Int(bits)
	return !isWhole
}

// rise tells whether each key of a map is above the one ahead of it.
func rise(kids []api.Value) bool {
	for i := 2; i < len(kids); i += 2 {
		if Compare(kids[i-2], kids[i]) >= 0 {
			return false
		}
	}
	return true
}

func isContainer(v api.Value) bool {
	return v.Kind == api.VList || v.Kind == api.VMap || v.Kind == api.VTag
}

func isDeepest(v api.Value) bool { return Depth(v) == api.MaxDepth }
