package typed

import (
	"strconv"

	"crucible/api"
	"crucible/fault"
	"crucible/number"
	"crucible/real"
	"crucible/whole"
)

// row is what numbers can be read from one by one. Of a number that is not what is asked for the answer is false.
type row interface {
	count() int
	whole(i int) (int64, bool)
	float(i int) (float64, bool)
}

// rowOf is that of a value that may be; false, if it is neither a typed array nor a list.
func rowOf(v api.Value) (row, bool) {
	if v.Kind == api.VList {
		return list(v.Kids), true
	}
	return arrayOf(v)
}

// list is a value's list of whatever values.
type list []api.Value

func (l list) count() int {
	return len(l)
}

func (l list) whole(i int) (int64, bool) {
	// No float of a value is a whole number.
	if l[i].Kind != api.VInt {
		return 0, false
	}
	return whole.Int64(l[i].Int)
}

func (l list) float(i int) (float64, bool) {
	bits, ok := number.Bits(l[i])
	return real.Float(bits), ok
}

// all are the numbers of a row, each asked for by its place; ErrRep of the first that is not what is asked for.
func all[T int64 | float64](count int, at func(int) (T, bool)) ([]T, error) {
	out := make([]T, count)
	for i := range out {
		x, ok := at(i)
		if !ok {
			return nil, refused("/" + strconv.Itoa(i))
		}
		out[i] = x
	}
	return out, nil
}

// floats are those of a value that may be.
func floats(v api.Value) ([]float64, error) {
	r, ok := rowOf(v)
	if !ok {
		return nil, refused("")
	}
	return all(r.count(), r.float)
}

// refused is ErrRep of a node.
func refused(path string) error {
	return fault.New(fault.Code(api.ErrRep), 0, path)
}
