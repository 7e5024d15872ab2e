package patch

import (
	"slices"

	"bellpull/api"
)

// edgesOf returns an edge for each connection of a permutation, from its
// ingress to its egress switch. Routings are the colourings of these edges.
func edgesOf(n int, perm []int) []api.Pair {
	edges := make([]api.Pair, len(perm))
	for input, output := range perm {
		edges[input] = edgeOf(n, api.Pair{A: input, B: output})
	}
	return edges
}

func edgeOf(n int, connection api.Pair) api.Pair {
	return api.Pair{A: connection.A / n, B: connection.B / n}
}

// isFree reports whether an edge may have a number: no other edge that has it
// has a common vertex with this one. Only the first edges may have numbers yet.
func isFree(number int, edge api.Pair, edges []api.Pair, numbers []int) bool {
	for i, other := range numbers {
		if other == number && (edges[i].A == edge.A || edges[i].B == edge.B) {
			return false
		}
	}
	return true
}

func isColoring(edges []api.Pair, numbers []int) bool {
	for i, number := range numbers {
		if !isFree(number, edges[i], edges, numbers[:i]) {
			return false
		}
	}
	return true
}

// leastColoring returns the lexicographically least edge colouring with numbers
// below a limit, which is at least the degree: then there is one, by König.
func leastColoring(edges []api.Pair, limit int) []int {
	colors, _ := extend(edges, make([]int, 0, len(edges)), limit)
	return colors
}

// extend gives numbers to the edges behind those that have one already.
func extend(edges []api.Pair, begin []int, limit int) ([]int, bool) {
	if len(begin) == len(edges) {
		return begin, true
	}
	for number := range limit {
		if !isFree(number, edges[len(begin)], edges, begin) {
			continue
		}
		if colors, ok := extend(edges, append(begin, number), limit); ok {
			return colors, true
		}
	}
	return nil, false
}

// degree returns the greatest number of edges with a common vertex.
func degree(edges []api.Pair) int {
	var first, second [maxSide]int
	for _, edge := range edges {
		first[edge.A]++
		second[edge.B]++
	}
	return max(slices.Max(first[:]), slices.Max(second[:]))
}
