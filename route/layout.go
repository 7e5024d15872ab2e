package route

import (
	"slices"

	"bellpull/api"
)

// places has the position of each vertex.
type places [api.MaxRooms]int

// placesOf returns the positions of the vertices of an order, or of the
// beginning of one: then the other vertices are all at the position behind it.
// Whatever follows, no edge becomes shorter, and the cuts of the positions in
// the beginning stay: so none of the measures below becomes less.
func placesOf(begin []int) places {
	var at places
	for vertex := range at {
		at[vertex] = len(begin)
	}
	for position, vertex := range begin {
		at[vertex] = position
	}
	return at
}

// ends returns the positions of the ends of an edge, the smaller one first.
func ends(edge api.Pair, at places) (int, int) {
	return min(at[edge.A], at[edge.B]), max(at[edge.A], at[edge.B])
}

func cutsOf(edges []api.Pair, at places) [api.MaxRooms]int {
	var cuts [api.MaxRooms]int
	for _, edge := range edges {
		from, to := ends(edge, at)
		for position := from; position < to; position++ {
			cuts[position]++
		}
	}
	return cuts
}

func bandwidth(edges []api.Pair, at places) int {
	longest := 0
	for _, edge := range edges {
		from, to := ends(edge, at)
		longest = max(longest, to-from)
	}
	return longest
}

func cutwidth(edges []api.Pair, at places) int {
	cuts := cutsOf(edges, at)
	return slices.Max(cuts[:])
}

func sum(edges []api.Pair, at places) int {
	total := 0
	for _, edge := range edges {
		from, to := ends(edge, at)
		total += to - from
	}
	return total
}
