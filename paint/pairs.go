package paint

import (
	"iter"
	"slices"

	"bellpull/api"
)

// dots is n vertices and the colours of their pairs. The last colours may be
// missing, as long as nobody asks for them.
type dots struct {
	n      int
	colors []int
}

func (d dots) color(v, w int) int {
	a, b := min(v, w), max(v, w)
	before := a * (2*d.n - a - 1) / 2
	return d.colors[before+b-a-1]
}

// joins reports whether a vertex forms a pair of a colour with each one of a clique.
func (d dots) joins(v int, clique []int, color int) bool {
	for _, w := range clique {
		if d.color(v, w) != color {
			return false
		}
	}
	return true
}

// grow adds vertices below a limit to a clique, rising, until it has k, and
// returns the lexicographically least result, or nil if there is none.
func (d dots) grow(clique []int, limit, color, k int) []int {
	return d.growFrom(0, clique, limit, color, k)
}

func (d dots) growFrom(from int, clique []int, limit, color, k int) []int {
	if len(clique) == k {
		return slices.Clone(clique)
	}
	for v := from; v < limit; v++ {
		if !d.joins(v, clique, color) {
			continue
		}
		if grown := d.growFrom(v+1, append(clique, v), limit, color, k); grown != nil {
			return grown
		}
	}
	return nil
}

// cliqueless yields the colourings of the pairs of n vertices without a clique
// of colour 0 with k vertices and without one of colour 1 with l.
func cliqueless(n, k, l int) iter.Seq[[]int] {
	pairs := pairsOf(n)
	free := func(begin []int) bool {
		last := len(begin) - 1
		color, size := begin[last], k
		if color == 1 {
			size = l
		}
		// The last pair completes only cliques of which it is the greatest
		// pair: their other vertices are below both of its own.
		pair := pairs[last]
		return dots{n, begin}.grow([]int{pair.A, pair.B}, pair.A, color, size) == nil
	}
	return colorings(len(pairs), 2, free)
}

func pairsOf(n int) []api.Pair {
	var pairs []api.Pair
	for a := range n {
		for b := a + 1; b < n; b++ {
			pairs = append(pairs, api.Pair{A: a, B: b})
		}
	}
	return pairs
}
