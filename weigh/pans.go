package weigh

import "iter"

// The pans, by the numbers that they have in a weighing.
const (
	beside   = iota - 1 // the pan with what is weighed
	off                 // neither pan
	opposite            // the other pan
)

// weighing has the pan of each weight.
type weighing [maxPans]int

func (w weighing) total(weights []int) int {
	total := 0
	for i, weight := range weights {
		total += w[i] * weight
	}
	return total
}

// weighings yields all weighings of n weights, from the lexicographically
// greatest one down.
func weighings(n int) iter.Seq[weighing] {
	return func(yield func(weighing) bool) {
		var w weighing
		for i := range n {
			w[i] = opposite
		}
		for yield(w) {
			i := n - 1
			for i >= 0 && w[i] == beside {
				w[i] = opposite
				i--
			}
			if i < 0 {
				return
			}
			w[i]-- // from opposite to off, from off to beside
		}
	}
}
