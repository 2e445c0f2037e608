package value

import (
	"iter"
	"strconv"
	"strings"

	"crucible/api"
)

// nodes are the nodes of a value, each with the numbers of Kids that lead to it. These hold only till the next node.
func nodes(v api.Value) iter.Seq2[[]int, api.Value] {
	return func(yield func([]int, api.Value) bool) {
		var path []int
		var walk func(node api.Value) bool
		walk = func(node api.Value) bool {
			if !yield(path, node) {
				return false
			}
			for i, kid := range node.Kids {
				path = append(path, i)
				if !walk(kid) {
					return false
				}
				path = path[:len(path)-1]
			}
			return true
		}
		walk(v)
	}
}

// written is a path as text.
func written(path []int) string {
	var out strings.Builder
	for _, n := range path {
		out.WriteByte('/')
		out.WriteString(strconv.Itoa(n))
	}
	return out.String()
}
