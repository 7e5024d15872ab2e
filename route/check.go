package route

import (
	"slices"

	"bellpull/api"
)

func within(x, low, high int) bool { return low <= x && x <= high }

func isPermutation(order []int, size int) bool {
	if len(order) != size {
		return false
	}
	for i, vertex := range order {
		if !within(vertex, 0, size-1) || slices.Contains(order[:i], vertex) {
			return false
		}
	}
	return true
}

// checkedGraph returns what is wrong with a graph.
func checkedGraph(n int, edges []api.Pair) api.Errno {
	bad := func(edge api.Pair) bool {
		return !within(edge.A, 0, n-1) || !within(edge.B, 0, n-1) || edge.A == edge.B
	}
	switch {
	case len(edges) > api.MaxEdges:
		return api.ErrLong
	case !within(n, 1, api.MaxRooms) || slices.ContainsFunc(edges, bad):
		return api.ErrArg
	}
	return api.OK
}

// checkedOrder returns what is wrong with a graph, or with an order of it.
func checkedOrder(n int, edges []api.Pair, order []int) api.Errno {
	if e := checkedGraph(n, edges); e != api.OK {
		return e
	}
	if !isPermutation(order, n) {
		return api.ErrForm
	}
	return api.OK
}
