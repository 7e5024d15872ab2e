package weigh_test

import (
	"math"
	"math/rand"
	"slices"
	"testing"

	"bellpull/api"
	"bellpull/weigh"
)

// The chapter's example, and others by hand.
func TestPansByHand(t *testing.T) {
	cases := []struct {
		weights []int
		total   int
		want    []int
	}{
		{[]int{1, 3, 9}, 5, []int{-1, -1, 1}},
		{[]int{1, 3, 9}, 0, []int{0, 0, 0}},
		{[]int{1, 3, 9}, 13, []int{1, 1, 1}},
		{[]int{1, 2, 3}, 0, []int{1, 1, -1}},
		{[]int{1, 2, 3}, 3, []int{1, 1, 0}},
		{[]int{1, 2, 3}, 2, []int{1, -1, 1}},
		{[]int{100000}, 100000, []int{1}},
		{[]int{100000}, 0, []int{0}},
		{[]int{2, 3}, 1, []int{-1, 1}},
	}
	for _, c := range cases {
		if got, e := weigh.Pans(c.weights, c.total); !slices.Equal(got, c.want) || e != api.OK {
			t.Errorf("Pans(%v, %d) = %v, %d", c.weights, c.total, got, e)
		}
	}
	for _, total := range []int{2, 5, 9, 99999} {
		if got, e := weigh.Pans([]int{1, 7}, total); len(got) != 0 || e != api.ErrNone {
			t.Errorf("Pans([1 7], %d) = %v, %d", total, got, e)
		}
	}
}

// checkPans compares Pans with all weighings.
func checkPans(t *testing.T, weights []int, greatest map[int][]int, total int) {
	t.Helper()
	want, ok := greatest[total]
	got, e := weigh.Pans(weights, total)
	if !slices.Equal(got, want) || (e == api.OK) != ok || (e == api.ErrNone) != !ok {
		t.Fatalf("Pans(%v, %d) = %v, %d, want %v", weights, total, got, e, want)
	}
}

func TestPansOfSmallWeights(t *testing.T) {
	for _, weights := range smallWeights(7) {
		greatest := balances(weights)
		for total := range sumOf(weights) + 3 {
			checkPans(t, weights, greatest, total)
		}
	}
}

func TestPansOfLargeWeights(t *testing.T) {
	random := rand.New(rand.NewSource(83))
	for _, weights := range largeWeights() {
		weights = weights[:min(9, len(weights))]
		greatest, sum := balances(weights), sumOf(weights)
		for _, total := range []int{0, 1, sum / 2, sum - 1, sum, sum + 1, 1 << 32, 1<<32 + sum, math.MaxInt - 1, math.MaxInt} {
			checkPans(t, weights, greatest, total)
		}
		for range 5 {
			total := random.Intn(sum)
			checkPans(t, weights, greatest, total)
			for i, pan := range weighed(random, len(weights)) {
				total += pan * weights[i]
			}
			checkPans(t, weights, greatest, max(total, 0))
		}
	}
}

func weighed(random *rand.Rand, size int) []int {
	var pans []int
	for range size {
		pans = append(pans, random.Intn(3)-1)
	}
	return pans
}

// H8: with powers of three the pans are the digits of the total.
func TestPansOfPowersOfThree(t *testing.T) {
	for size := 1; size <= 9; size++ {
		weights := powers(3, size)
		for total := 0; total <= sumOf(weights); total += 1 + total/500 {
			var want []int
			for rest := total; len(want) < size; {
				digit := (rest+1)%3 - 1
				want, rest = append(want, digit), (rest-digit)/3
			}
			if got, e := weigh.Pans(weights, total); !slices.Equal(got, want) || e != api.OK {
				t.Fatalf("Pans(%v, %d) = %v, %d, want %v", weights, total, got, e, want)
			}
		}
	}
}
