package weigh_test

import (
	"math"
	"math/rand"
	"slices"
	"testing"

	"bellpull/api"
	"bellpull/probe"
	"bellpull/weigh"
)

// refused checks that the functions of weights alone return an error.
func refused(t *testing.T, weights []int, want api.Errno) {
	t.Helper()
	if got, e := weigh.Distinct(weights); got || e != want {
		t.Errorf("Distinct(%v) = %t, %d, want %d", weights, got, e, want)
	}
	if x, y, e := weigh.Clash(weights); len(x) != 0 || len(y) != 0 || e != want {
		t.Errorf("Clash(%v) = %v, %v, %d, want %d", weights, x, y, e, want)
	}
	if got, e := weigh.Reciprocals(weights); got != "" || e != want {
		t.Errorf("Reciprocals(%v) = %q, %d, want %d", weights, got, e, want)
	}
}

// refusedTotal checks that the functions of weights and a total return an error.
func refusedTotal(t *testing.T, weights []int, total int, want api.Errno) {
	t.Helper()
	if got, e := weigh.Subset(weights, total); len(got) != 0 || e != want {
		t.Errorf("Subset(%v, %d) = %v, %d, want %d", weights, total, got, e, want)
	}
	if got, e := weigh.Ways(weights, total); got != 0 || e != want {
		t.Errorf("Ways(%v, %d) = %d, %d, want %d", weights, total, got, e, want)
	}
	refusedPans(t, weights, total, want)
}

func refusedPans(t *testing.T, weights []int, total int, want api.Errno) {
	t.Helper()
	if len(weights) > 9 {
		want = api.ErrLong
	}
	if got, e := weigh.Pans(weights, total); len(got) != 0 || e != want {
		t.Errorf("Pans(%v, %d) = %v, %d, want %d", weights, total, got, e, want)
	}
}

func totals() []int { return []int{0, 1, 5, 100000, math.MaxInt32, math.MaxInt} }

func below() []int { return []int{-1, -2, -6, -100000, math.MinInt32, math.MinInt, math.MinInt + 1} }

// malformed are lists of so many numbers that are no weights.
func malformed(size int) [][]int {
	all := [][]int{make([]int, size), slices.Repeat([]int{7}, size+1)[:max(size, 2)]}
	for at := range size {
		for _, x := range probe.Outside(1, api.MaxWeight) {
			weights := count(1, size)
			weights[at] = x
			all = append(all, weights)
		}
		if at > 0 {
			same, swapped := count(1, size), count(1, size)
			same[at] = same[at-1]
			swapped[at-1], swapped[at] = swapped[at], swapped[at-1]
			all = append(all, same, swapped, append(count(2, size), 1), count(api.MaxWeight-size+2, api.MaxWeight+1))
		}
	}
	return all
}

// Malformed weights are refused after a total that is out of its range.
func TestMalformedWeights(t *testing.T) {
	lists := [][]int{nil, {}}
	for size := 1; size <= api.MaxWeights; size++ {
		lists = append(lists, malformed(size)...)
	}
	for _, weights := range lists {
		refused(t, weights, api.ErrForm)
		for _, total := range totals() {
			refusedTotal(t, weights, total, api.ErrForm)
		}
		for _, total := range below() {
			refusedTotal(t, weights, total, api.ErrArg)
		}
	}
}

func TestTotalsBelowZero(t *testing.T) {
	for size := 1; size <= api.MaxWeights; size++ {
		for _, total := range below() {
			refusedTotal(t, count(1, size), total, api.ErrArg)
		}
	}
}

// Too many weights are refused before all else.
func TestTooManyWeights(t *testing.T) {
	for _, size := range []int{13, 14, 64, 65, 5000} {
		for _, weights := range [][]int{count(1, size), make([]int, size), slices.Repeat([]int{-1, 200000}, size), count(99999, 99998+size)} {
			refused(t, weights, api.ErrLong)
			for _, total := range append(totals(), below()...) {
				refusedTotal(t, weights, total, api.ErrLong)
			}
		}
	}
	for size := 10; size <= 12; size++ {
		for _, weights := range append(malformed(size), count(1, size)) {
			for _, total := range append(totals(), below()...) {
				refusedPans(t, weights, total, api.ErrLong)
			}
		}
	}
	for size := 1; size <= 12; size++ {
		distinct(t, count(1, size))
		ways(t, count(1, size), 5)
		if _, e := weigh.Pans(count(1, size), 1); (e == api.OK) != (size <= 9) {
			t.Errorf("Pans of %d weights: %d", size, e)
		}
	}
}

// R1: the functions end, and do not panic, for whatever numbers there are.
func TestStrangeArguments(t *testing.T) {
	random := rand.New(rand.NewSource(85))
	pool := []int{math.MinInt, math.MinInt32, -2, -1, 0, 1, 2, 3, 4, 5, 8, 13, 99999, 100000, 100001, math.MaxInt32, math.MaxInt}
	some := func() int { return pool[random.Intn(len(pool))] }
	for range 20000 {
		weights := make([]int, random.Intn(15))
		for i := range weights {
			weights[i] = some()
		}
		if random.Intn(2) == 0 {
			slices.Sort(weights)
		}
		total := some()
		weigh.Distinct(weights)
		weigh.Clash(weights)
		weigh.Subset(weights, total)
		weigh.Ways(weights, total)
		weigh.Pans(weights, total)
		weigh.Guy(total)
		weigh.Set(total)
		weigh.Best(total)
		weigh.Reciprocals(weights)
	}
}

// ofWeights are calls with weights, each with its result as a list.
func ofWeights() map[string]func(weights []int) []int {
	return map[string]func(weights []int) []int{
		"Distinct": func(l []int) []int {
			ok, e := weigh.Distinct(l)
			if ok {
				return []int{1, int(e)}
			}
			return []int{0, int(e)}
		},
		"Clash":  func(l []int) []int { x, y, _ := weigh.Clash(l); return append(x, y...) },
		"Subset": func(l []int) []int { list, _ := weigh.Subset(l, 9); return list },
		"Ways":   func(l []int) []int { n, e := weigh.Ways(l, 9); return []int{n, int(e)} },
		"Pans":   func(l []int) []int { list, _ := weigh.Pans(l, 9); return list },
		"Reciprocals": func(l []int) []int {
			num, e := weigh.Reciprocals(l)
			list := []int{int(e)}
			for i := range num {
				list = append(list, int(num[i]))
			}
			return list
		},
	}
}

// R5 and R6: arguments stay as they are, results are new memory, and the same
// arguments have the same result, whatever their capacity.
func TestArgumentsAndResults(t *testing.T) {
	for name, call := range ofWeights() {
		for _, weights := range [][]int{{1, 2, 3, 4, 5}, {2, 3, 4, 5, 7, 9}, count(1, 9), {4, 5, 9, 50000, 100000}} {
			if wrong := probe.Memory(weights, 100000, call); wrong != "" {
				t.Errorf("%s(%v) %s", name, weights, wrong)
			}
		}
	}
}

// R5: the two subsets of a clash share no memory.
func TestClashIsTwoSlices(t *testing.T) {
	x, y, _ := weigh.Clash(count(1, 12))
	want := slices.Clone(y)
	for i := range x[:cap(x)] {
		x[:cap(x)][i] = -5
	}
	if !slices.Equal(y, want) {
		t.Errorf("the first subset shares memory with %v", want)
	}
}

// R6: calls in between, also refused ones, change nothing.
func TestCallsDoNotMatterToEachOther(t *testing.T) {
	random := rand.New(rand.NewSource(86))
	weights := []int{2, 3, 4, 5, 7, 9}
	for name, call := range ofWeights() {
		want := call(weights)
		for range 10 {
			call(randomWeights(random, 1+random.Intn(12), 100))
			call([]int{3, 3})
			call(count(1, 13))
			if got := call(weights); !slices.Equal(got, want) {
				t.Errorf("%s(%v) = %v, then %v", name, weights, want, got)
			}
		}
	}
}
