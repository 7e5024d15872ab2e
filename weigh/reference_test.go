package weigh_test

import (
	"math/rand"
	"slices"
	"testing"

	"bellpull/api"
	"bellpull/probe"
	"bellpull/weigh"
)

// The references below follow the definitions of the chapter word by word, and
// share no code with the package.

// part is a subset of weights: its indices, a bit for each of them, and its sum.
type part struct {
	indices   []int
	bits, sum int
}

// partsOf are all subsets of weights in lexicographic order.
func partsOf(weights []int) []part {
	var all []part
	for bits := range 1 << len(weights) {
		p := part{bits: bits}
		for i, weight := range weights {
			if bits>>i&1 == 1 {
				p.indices, p.sum = append(p.indices, i), p.sum+weight
			}
		}
		all = append(all, p)
	}
	slices.SortFunc(all, func(x, y part) int { return slices.Compare(x.indices, y.indices) })
	return all
}

// clashOf looks at all pairs of different subsets for the first clash, and says
// whether any two of them have the same sum.
func clashOf(all []part) (x, y []int, same bool) {
	for i, one := range all {
		for _, other := range all[i+1:] {
			if one.sum != other.sum {
				continue
			}
			same = true
			if len(one.indices) > 0 && len(other.indices) > 0 && one.bits&other.bits == 0 {
				return one.indices, other.indices, true
			}
		}
	}
	return nil, nil, same
}

// polynomial multiplies 1 + X^w for all weights: its coefficients are the
// numbers of subsets with each sum.
func polynomial(weights []int) []int {
	counts := []int{1}
	for _, weight := range weights {
		more := append(make([]int, weight), counts...)
		for i, count := range counts {
			more[i] += count
		}
		counts = more
	}
	return counts
}

// balances are the lexicographically greatest weighings of all totals.
func balances(weights []int) map[int][]int {
	greatest := map[int][]int{}
	for list := range probe.Lists(len(weights), -1, 1) {
		total := 0
		for i, weight := range weights {
			total += list[i] * weight
		}
		greatest[total] = list
	}
	return greatest
}

func sumOf(list []int) int {
	sum := 0
	for _, x := range list {
		sum += x
	}
	return sum
}

func isRising(list []int) bool {
	for i := range list {
		if i > 0 && list[i] <= list[i-1] {
			return false
		}
	}
	return true
}

func multiplied(list []int, factor int) []int {
	var result []int
	for _, x := range list {
		result = append(result, factor*x)
	}
	return result
}

// powers are the first powers of a number.
func powers(base, size int) []int {
	list, x := []int{}, 1
	for range size {
		list, x = append(list, x), x*base
	}
	return list
}

// count are the numbers from one to another one.
func count(from, to int) []int {
	var list []int
	for x := from; x <= to; x++ {
		list = append(list, x)
	}
	return list
}

// randomWeights are so many weights up to a greatest one.
func randomWeights(random *rand.Rand, size, greatest int) []int {
	var list []int
	for len(list) < size {
		if x := 1 + random.Intn(greatest); !slices.Contains(list, x) {
			list = append(list, x)
		}
	}
	slices.Sort(list)
	return list
}

// smallWeights are all weights with up to a greatest one.
func smallWeights(greatest int) [][]int {
	var all [][]int
	for _, p := range partsOf(count(1, greatest))[1:] {
		all = append(all, indicesFromOne(p.indices))
	}
	return all
}

func indicesFromOne(indices []int) []int {
	var list []int
	for _, i := range indices {
		list = append(list, i+1)
	}
	return list
}

// largeWeights are weights at the limits, and random ones of all sizes, among
// them distinct ones, and others that are nearly distinct.
func largeWeights() [][]int {
	random := rand.New(rand.NewSource(81))
	all := [][]int{count(1, 12), count(99989, 100000), powers(2, 12), powers(3, 11), {100000}, {1, 100000}, {99999, 100000}}
	all = append(all, multiplied(powers(2, 12), 48), multiplied(powers(3, 9), 15), multiplied(count(1, 12), 8333))
	for size := 1; size <= api.MaxWeights; size++ {
		for _, greatest := range []int{12, 20, 100, 1000, 10000, api.MaxWeight} {
			all = append(all, randomWeights(random, size, greatest))
		}
		doubled := powers(2, size)
		doubled[size-1] = max(1, doubled[size-1]-1)
		all = append(all, slices.Compact(doubled))
	}
	return all
}

// distinct returns what Distinct returns for weights that are valid.
func distinct(t *testing.T, weights []int) bool {
	t.Helper()
	ok, e := weigh.Distinct(weights)
	if e != api.OK {
		t.Fatalf("Distinct(%v): %d", weights, e)
	}
	return ok
}

// ways returns what Ways returns for weights that are valid.
func ways(t *testing.T, weights []int, total int) int {
	t.Helper()
	n, e := weigh.Ways(weights, total)
	if e != api.OK {
		t.Fatalf("Ways(%v, %d): %d", weights, total, e)
	}
	return n
}
