package weigh

import (
	"iter"
	"math/bits"
	"slices"
)

// first returns the first of some results that is wanted, and whether there is one.
func first[T any](results iter.Seq[T], wanted func(T) bool) (T, bool) {
	for result := range results {
		if wanted(result) {
			return result, true
		}
	}
	var none T
	return none, false
}

// subset has a bit for each index that is in it, the lowest bit for 0.
type subset uint

// last returns the greatest index of a subset, or -1 for the empty one.
func (s subset) last() int { return bits.Len(uint(s)) - 1 }

func (s subset) has(index int) bool { return s>>index&1 == 1 }

func (s subset) indices() []int {
	var list []int
	for index := range s.last() + 1 {
		if s.has(index) {
			list = append(list, index)
		}
	}
	return list
}

func (s subset) sum(weights []int) int {
	sum := 0
	for index, weight := range weights {
		if s.has(index) {
			sum += weight
		}
	}
	return sum
}

// subsets yields all subsets of n indices, 1 or more, in lexicographic order.
func subsets(n int) iter.Seq[subset] {
	return func(yield func(subset) bool) {
		s := subset(0)
		for yield(s) {
			last := s.last()
			if last == n-1 {
				// Nothing longer begins like this: the index before the last one goes up.
				s ^= 1 << last
				if s == 0 {
					return
				}
				last = s.last()
				s ^= 1 << last
			}
			s |= 1 << (last + 1)
		}
	}
}

func areDistinct(weights []int) bool {
	var sums []int
	for s := range subsets(len(weights)) {
		sums = append(sums, s.sum(weights))
	}
	slices.Sort(sums)
	return len(slices.Compact(sums)) == 1<<len(weights)
}

// twin is two subsets with the same sum. Neither is empty, as no other subset
// has the sum 0.
type twin struct {
	x, y subset
}

func (t twin) disjoint() bool { return t.x&t.y == 0 }

// twins yields all pairs of subsets with the same sum of which the first one is
// lexicographically less, by the first one and then by the second one.
func twins(weights []int) iter.Seq[twin] {
	return func(yield func(twin) bool) {
		bySum := map[int][]subset{}
		for s := range subsets(len(weights)) {
			sum := s.sum(weights)
			bySum[sum] = append(bySum[sum], s)
		}
		for x := range subsets(len(weights)) {
			sum := x.sum(weights)
			// All before x have been taken away, so x is the first one left.
			bySum[sum] = bySum[sum][1:]
			for _, y := range bySum[sum] {
				if !yield(twin{x, y}) {
					return
				}
			}
		}
	}
}

// candidates yields lists of n weights, those with a smaller greatest one
// first, and lexicographically less ones first among those with the same. It
// ends when the powers of two, which are distinct, have been among them.
func candidates(n int) iter.Seq[[]int] {
	return func(yield func([]int) bool) {
		for greatest := 1; greatest <= 1<<(n-1); greatest++ {
			for s := range subsets(greatest) {
				if s.has(greatest-1) && bits.OnesCount(uint(s)) == n && !yield(numbered(s)) {
					return
				}
			}
		}
	}
}

// numbered returns the indices of a subset as weights, which begin with 1.
func numbered(s subset) []int {
	weights := s.indices()
	for i := range weights {
		weights[i]++
	}
	return weights
}
