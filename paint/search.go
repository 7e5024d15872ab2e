package paint

import (
	"iter"
	"slices"

	"bellpull/api"
)

// colorings yields the colourings of size items with r colours, in
// lexicographic order. It gives each beginning to free as soon as it is one
// colour longer, so free has to look only for patterns that this last colour
// completes; a beginning that has one is in no colouring without patterns.
func colorings(size, r int, free func(begin []int) bool) iter.Seq[[]int] {
	var extend func(begin []int, yield func([]int) bool) bool
	extend = func(begin []int, yield func([]int) bool) bool {
		if len(begin) == size {
			return yield(slices.Clone(begin))
		}
		for color := range r {
			next := append(begin, color)
			if free(next) && !extend(next, yield) {
				return false
			}
		}
		return true
	}
	return func(yield func([]int) bool) {
		extend(make([]int, 0, size), yield)
	}
}

// first returns the first colouring, if there is one.
func first(all iter.Seq[[]int]) ([]int, api.Errno) {
	for colors := range all {
		return colors, api.OK
	}
	return nil, api.ErrNone
}
