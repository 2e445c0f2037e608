package packwrite

import (
	"strconv"

	"crucible/api"
	"crucible/fault"
	"crucible/number"
	"crucible/whole"
)

// foreignIn refuses a value for the first node in it that is not MessagePack's. Its Path is put together on the way back from it.
func foreignIn(v api.Value) error {
	if isForeign(v) {
		return fault.New(fault.Code(api.ErrRep), 0, "")
	}
	for i, kid := range v.Kids {
		if err := foreignIn(kid); err != nil {
			return fault.In(err, strconv.Itoa(i))
		}
	}
	return nil
}

// isForeign: is this node, its Kids not looked at, none of MessagePack's?
func isForeign(v api.Value) bool {
	switch v.Kind {
	case api.VTag, api.VSimple:
		return true
	case api.VInt:
		return !hasFamily(v.Int) && !isFloat(v)
	}
	return false
}

// hasFamily: does a whole number stand in 8 bytes, with a sign or without?
func hasFamily(n api.Int) bool {
	_, signed := whole.Int64(n)
	_, unsigned := whole.Uint64(n)
	return signed || unsigned
}

func isFloat(v api.Value) bool {
	_, ok := number.Bits(v)
	return ok
}
