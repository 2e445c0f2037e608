package jsonwrite

import (
	"slices"
	"strconv"

	"crucible/api"
	"crucible/fault"
	"crucible/ieee"
	"crucible/number"
)

// refusal is the panic with which a value is refused. It is a type of its own, so that no other panic is taken for one.
type refusal struct{ reason error }

// refuseFor goes on only where there is no error.
func refuseFor(reason error) {
	if reason != nil {
		panic(refusal{reason})
	}
}

// reasonOf is why a value was refused. Any other panic is not to be hidden, and goes on.
func reasonOf(caught any) error {
	if r, ok := caught.(refusal); ok {
		return r.reason
	}
	panic(caught)
}

// look goes through the nodes in the order in which they are told, and refuses the value for the first one that is not JSON's. The path is the numbers of Kids that lead to this node.
func (w *writer) look(node api.Value, path []int, isKey bool) {
	if isKey && node.Kind != api.VText || !w.hasText(node) {
		refuseFor(notJSONs(path))
	}
	for i, kid := range node.Kids {
		w.look(kid, append(path, i), node.Kind == api.VMap && i%2 == 0)
	}
}

// hasText: is the node, wherever it stands, one of which there is a JSON text?
func (w *writer) hasText(node api.Value) bool {
	if _, ok := w.ways[node.Kind]; !ok {
		return false
	}
	return !isNumber(node) || isFinite(node)
}

func isNumber(node api.Value) bool { return node.Kind == api.VInt || node.Kind == api.VFloat }

// isFinite: has some finite pattern of 64 bits this number?
func isFinite(n api.Value) bool {
	bits, ok := number.Bits(n)
	class := ieee.Class(bits)
	return ok && class != api.ClassInf && class != api.ClassNaN
}

func notJSONs(path []int) error {
	var err error = &api.Fault{Err: api.ErrRep}
	for _, step := range slices.Backward(path) {
		err = fault.In(err, strconv.Itoa(step))
	}
	return err
}
