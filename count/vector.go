package count

import (
	"cmp"
	"slices"

	"bellpull/api"
)

// vector has a number for each dimension that there may be; those of the
// dimensions that a set does not have are 0.
type vector [api.MaxDims]int

func vectorOf(numbers []int) vector {
	var v vector
	copy(v[:], numbers)
	return v
}

// numbers returns those of the first d dimensions.
func (v vector) numbers(d int) []int { return slices.Clone(v[:d]) }

func (v vector) plus(w vector) vector { return vector{v[0] + w[0], v[1] + w[1], v[2] + w[2]} }

// minus subtracts a vector a number of times.
func (v vector) minus(w vector, times int) vector {
	return vector{v[0] - times*w[0], v[1] - times*w[1], v[2] - times*w[2]}
}

func (v vector) total() int { return v[0] + v[1] + v[2] }

// upTo reports whether no number is greater than the one of w.
func (v vector) upTo(w vector) bool { return v[0] <= w[0] && v[1] <= w[1] && v[2] <= w[2] }

// room returns how often a period fits into a vector at most. The period 0
// changes nothing, so that it need not be used.
func (v vector) room(period vector) int {
	if period == (vector{}) {
		return 0
	}
	room := api.MaxVector
	for i, x := range period {
		if x > 0 {
			room = min(room, v[i]/x)
		}
	}
	return room
}

// compare orders vectors by their sums, and those of one sum lexicographically.
func compare(v, w vector) int {
	return cmp.Or(cmp.Compare(v.total(), w.total()), slices.Compare(v[:], w[:]))
}
