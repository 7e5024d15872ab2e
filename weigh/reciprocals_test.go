package weigh_test

import (
	"math/big"
	"math/rand"
	"slices"
	"strings"
	"testing"

	"bellpull/api"
	"bellpull/weigh"
)

var two = big.NewRat(2, 1)

// reciprocals returns the sum of the reciprocals of weights, and checks that
// Reciprocals returns it in lowest terms.
func reciprocals(t *testing.T, weights []int) *big.Rat {
	t.Helper()
	sum := new(big.Rat)
	for _, weight := range weights {
		sum.Add(sum, big.NewRat(1, int64(weight)))
	}
	if got, e := weigh.Reciprocals(weights); string(got) != sum.RatString() || e != api.OK {
		t.Fatalf("Reciprocals(%v) = %q, %d, want %s", weights, got, e, sum.RatString())
	}
	return sum
}

// The chapter's example, and others by hand.
func TestReciprocalsByHand(t *testing.T) {
	cases := []struct {
		weights []int
		want    api.Num
	}{
		{[]int{1, 2, 4}, "7/4"},
		{[]int{1}, "1"},
		{[]int{2}, "1/2"},
		{[]int{100000}, "1/100000"},
		{[]int{2, 3, 6}, "1"},
		{[]int{1, 2, 3, 6}, "2"},
		{[]int{3, 6}, "1/2"},
		{[]int{6, 10, 15}, "1/3"},
		{[]int{50000, 100000}, "3/100000"},
		{count(1, 12), "86021/27720"},
		{[]int{99991, 100000}, "199991/9999100000"},
	}
	for _, c := range cases {
		if got, e := weigh.Reciprocals(c.weights); got != c.want || e != api.OK {
			t.Errorf("Reciprocals(%v) = %q, %d", c.weights, got, e)
		}
	}
}

func TestReciprocals(t *testing.T) {
	for _, weights := range append(smallWeights(12), largeWeights()...) {
		reciprocals(t, weights)
	}
	random := rand.New(rand.NewSource(84))
	for range 20000 {
		reciprocals(t, randomWeights(random, 1+random.Intn(12), 12+random.Intn(99989)))
	}
}

// primesTo are so many of the primes up to a number, rising.
func primesTo(greatest, size int) []int {
	var list []int
	for n := greatest; len(list) < size; n-- {
		if big.NewInt(int64(n)).ProbablyPrime(0) {
			list = append([]int{n}, list...)
		}
	}
	return list
}

// Primes have the longest denominators: those near the greatest weight, and
// also those whose products have zeros in the middle.
func TestLongReciprocals(t *testing.T) {
	primes := primesTo(api.MaxWeight, api.MaxWeights)
	got, e := weigh.Reciprocals(primes)
	if _, denominator, _ := strings.Cut(string(got), "/"); e != api.OK || len(denominator) != 60 {
		t.Errorf("Reciprocals(%v) = %q, %d", primes, got, e)
	}
	for size := 1; size <= api.MaxWeights; size++ {
		for _, greatest := range []int{40, 100, 1000, 10000, 31627, 50000, 99000, api.MaxWeight} {
			reciprocals(t, primesTo(greatest, size))
		}
	}
	// Products that end with many zeros.
	tens := []int{1, 10, 100, 1000, 10000, 100000, 2, 20, 200, 2000, 20000, 50000}
	for size := 1; size <= len(tens); size++ {
		reciprocals(t, slices.Sorted(slices.Values(tens[:size])))
	}
}
