package route

import (
	"math"
	"slices"

	"bellpull/api"
)

// search looks for the order of a graph that costs the least.
type search struct {
	n     int
	edges []api.Pair
	cost  func(edges []api.Pair, at places) int
}

// first returns the least cost of an order, and the lexicographically least of
// the orders with it. It goes through the beginnings of orders in lexicographic
// order; those that cost as much as an order that was found already are left
// out with all that follows them, as no order costs less than its beginning.
func (s search) first() (int, []int) {
	least, found := math.MaxInt, []int(nil)
	begin := make([]int, 0, s.n)
	untried := 0 // the first vertex that may come next
beginnings:
	for {
		for vertex := untried; vertex < s.n; vertex++ {
			if slices.Contains(begin, vertex) {
				continue
			}
			longer := append(begin, vertex)
			cost := s.cost(s.edges, placesOf(longer))
			if cost >= least {
				continue
			}
			if len(longer) < s.n {
				begin, untried = longer, 0
				continue beginnings
			}
			least, found = cost, slices.Clone(longer)
		}
		if len(begin) == 0 {
			break beginnings
		}
		last := len(begin) - 1
		untried = begin[last] + 1
		begin = begin[:last]
	}
	return least, found
}
