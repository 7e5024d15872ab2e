package weigh_test

import (
	"math"
	"math/rand"
	"slices"
	"testing"

	"bellpull/api"
	"bellpull/probe"
	"bellpull/weigh"
)

// The chapter's examples, and others by hand.
func TestClashesByHand(t *testing.T) {
	cases := []struct {
		weights []int
		x, y    []int // none if the weights are distinct
	}{
		{[]int{1}, nil, nil},
		{[]int{100000}, nil, nil},
		{[]int{3, 5, 6, 7}, nil, nil},
		{[]int{1, 2, 4}, nil, nil},
		{[]int{1, 2, 3}, []int{0, 1}, []int{2}},
		{[]int{1, 2, 4, 5}, []int{0, 2}, []int{3}},
		{[]int{2, 3, 4, 5}, []int{0, 1}, []int{3}},
		{[]int{1, 4, 6, 7}, []int{0, 2}, []int{3}},
		{[]int{10, 20, 40, 50, 70}, []int{0, 1, 2}, []int{4}},
		{[]int{1, 10, 20, 70, 80, 90}, []int{1, 3}, []int{4}},
		{[]int{1, 4, 6, 7, 8, 9}, []int{0, 1, 4}, []int{2, 3}},
		{[]int{99989, 99990, 99991, 99992}, []int{0, 3}, []int{1, 2}},
		{[]int{1, 2, 4, 8, 16, 32, 64, 128, 256, 512, 1024, 2047}, []int{0, 1, 2, 3, 4, 5, 6, 7, 8, 9, 10}, []int{11}},
	}
	for _, c := range cases {
		x, y, e := weigh.Clash(c.weights)
		if !slices.Equal(x, c.x) || !slices.Equal(y, c.y) || (e == api.ErrNone) != (c.x == nil) || (e == api.OK) != (c.x != nil) {
			t.Errorf("Clash(%v) = %v, %v, %d", c.weights, x, y, e)
		}
		if distinct(t, c.weights) != (c.x == nil) {
			t.Errorf("Distinct(%v) = %t", c.weights, c.x != nil)
		}
	}
}

func TestSubsetsByHand(t *testing.T) {
	cases := []struct {
		weights []int
		total   int
		want    []int
		ways    int
	}{
		{[]int{1, 2, 3}, 3, []int{0, 1}, 2},
		{[]int{1, 2, 3}, 0, nil, 1},
		{[]int{1, 2, 3}, 6, []int{0, 1, 2}, 1},
		{[]int{1, 2, 3, 4, 5}, 5, []int{0, 3}, 3},
		{[]int{1, 2, 3, 4, 5}, 6, []int{0, 1, 2}, 3},
		{[]int{5, 6, 7, 8, 13}, 13, []int{0, 3}, 3},
		{[]int{100000}, 100000, []int{0}, 1},
		{[]int{99999, 100000}, 199999, []int{0, 1}, 1},
	}
	for _, c := range cases {
		if got, e := weigh.Subset(c.weights, c.total); !slices.Equal(got, c.want) || e != api.OK {
			t.Errorf("Subset(%v, %d) = %v, %d", c.weights, c.total, got, e)
		}
		if got := ways(t, c.weights, c.total); got != c.ways {
			t.Errorf("Ways(%v, %d) = %d", c.weights, c.total, got)
		}
	}
}

// checkClash compares Distinct and Clash with all pairs of subsets (H1), and
// checks what H4 and H5 say of distinct weights.
func checkClash(t *testing.T, weights []int, all []part) {
	t.Helper()
	wantX, wantY, same := clashOf(all)
	want := api.OK
	if !same {
		want = api.ErrNone
	}
	if x, y, e := weigh.Clash(weights); !slices.Equal(x, wantX) || !slices.Equal(y, wantY) || e != want {
		t.Fatalf("Clash(%v) = %v, %v, %d, want %v, %v, %d", weights, x, y, e, wantX, wantY, want)
	}
	if distinct(t, weights) == same {
		t.Fatalf("Distinct(%v) = %t", weights, same)
	}
	if same {
		return
	}
	squares := 0
	for _, weight := range weights {
		squares += weight * weight
	}
	if 3*squares < 1<<(2*len(weights))-1 {
		t.Fatalf("%v are distinct, their squares have the sum %d", weights, squares)
	}
	if sum := reciprocals(t, weights); sum.Cmp(two) >= 0 {
		t.Fatalf("%v are distinct, their reciprocals have the sum %v", weights, sum)
	}
}

// checkTotal compares Subset and Ways with all subsets.
func checkTotal(t *testing.T, weights []int, all []part, total int) {
	t.Helper()
	var first []int
	e, count := api.ErrNone, 0
	for _, p := range all {
		if p.sum == total {
			if count == 0 {
				first, e = p.indices, api.OK
			}
			count++
		}
	}
	if got, f := weigh.Subset(weights, total); !slices.Equal(got, first) || f != e {
		t.Fatalf("Subset(%v, %d) = %v, %d, want %v, %d", weights, total, got, f, first, e)
	}
	if got := ways(t, weights, total); got != count {
		t.Fatalf("Ways(%v, %d) = %d, want %d", weights, total, got, count)
	}
}

func TestSumsOfSmallWeights(t *testing.T) {
	for _, weights := range smallWeights(10) {
		all := partsOf(weights)
		checkClash(t, weights, all)
		for total := range sumOf(weights) + 3 {
			checkTotal(t, weights, all, total)
		}
	}
}

func TestSumsOfLargeWeights(t *testing.T) {
	random := rand.New(rand.NewSource(82))
	for _, weights := range largeWeights() {
		all := partsOf(weights)
		checkClash(t, weights, all)
		sum := sumOf(weights)
		for range 10 {
			some := all[random.Intn(len(all))].sum
			for _, total := range []int{some, some + 1, sum - some, random.Intn(sum + 1)} {
				checkTotal(t, weights, all, total)
			}
		}
	}
}

// No subset has a sum beyond that of all weights, however large it is.
func TestTotalsBeyond(t *testing.T) {
	for _, weights := range [][]int{{1}, {3, 5, 6, 7}, count(1, 12), count(99989, 100000)} {
		sum := sumOf(weights)
		for _, total := range []int{sum + 1, sum + 1000, 1 << 32, 1<<32 + sum, math.MaxInt - 1, math.MaxInt} {
			checkTotal(t, weights, nil, total)
		}
		if got, e := weigh.Subset(weights, sum); !slices.Equal(got, probe.Identity(len(weights))) || e != api.OK {
			t.Errorf("Subset(%v, %d) = %v, %d", weights, sum, got, e)
		}
	}
}

// H6: the numbers of subsets, for all totals.
func TestWaysOfAllTotals(t *testing.T) {
	all := append(smallWeights(6), count(1, 12), powers(2, 9), []int{3, 6, 11, 12, 13}, []int{1, 3, 9, 27, 81, 243})
	for _, weights := range all {
		sum, total, most := sumOf(weights), 0, 0
		for x, want := range polynomial(weights) {
			n := ways(t, weights, x)
			if n != want || n != ways(t, weights, sum-x) {
				t.Fatalf("Ways(%v, %d) = %d, want %d", weights, x, n, want)
			}
			total, most = total+n, max(most, n)
		}
		if total != 1<<len(weights) || (most == 1) != distinct(t, weights) {
			t.Fatalf("Ways(%v, ..) sum to %d, the greatest is %d", weights, total, most)
		}
	}
}

// H7: a part of distinct weights, and their multiples.
func TestPartsAndMultiplesOfDistinctWeights(t *testing.T) {
	for n := 1; n <= api.MaxWeights; n++ {
		weights, e := weigh.Set(n)
		if e != api.OK {
			t.Fatalf("Set(%d): %d", n, e)
		}
		for _, p := range partsOf(weights)[1:] {
			var some []int
			for _, i := range p.indices {
				some = append(some, weights[i])
			}
			if !distinct(t, some) {
				t.Fatalf("Distinct(%v) = false, but %v are", some, weights)
			}
		}
		for factor := 1; factor*weights[n-1] <= api.MaxWeight; factor = factor*3 + 1 {
			if more := multiplied(weights, factor); !distinct(t, more) {
				t.Fatalf("Distinct(%v) = false, but %v are", more, weights)
			}
		}
	}
}
