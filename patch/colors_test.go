package patch_test

import (
	"math/rand"
	"slices"
	"testing"

	"bellpull/api"
	"bellpull/patch"
	"bellpull/probe"
)

// checkColors checks F6, and that the colouring is the least one.
func checkColors(t *testing.T, a, b int, edges []api.Pair, least func([]api.Pair, int) []int) {
	t.Helper()
	limit := greatest(edges)
	got, e := patch.Colors(a, b, edges)
	if e != api.OK || len(got) != len(edges) || !isProper(edges, got) {
		t.Fatalf("Colors(%d, %d, %v) = %v, %d", a, b, edges, got, e)
	}
	used := slices.Compact(slices.Sorted(slices.Values(got)))
	if len(used) != limit || limit > 0 && used[limit-1] != limit-1 {
		t.Fatalf("Colors(%d, %d, %v) = %v has not the numbers below %d", a, b, edges, got, limit)
	}
	if want := least(edges, limit); !slices.Equal(got, want) {
		t.Fatalf("Colors(%d, %d, %v) = %v, want %v", a, b, edges, got, want)
	}
}

// The chapter's third example.
func TestColorsExample(t *testing.T) {
	if got := colored(t, 2, 2, pairs(0, 0, 0, 0, 1, 1)); !slices.Equal(got, []int{0, 1, 0}) {
		t.Errorf("Colors = %v", got)
	}
}

// All lists of up to five edges, and of up to four ones between more vertices.
func TestColorsOfSmallGraphs(t *testing.T) {
	for size := range 6 {
		for _, sides := range [][2]int{{1, 1}, {1, 3}, {3, 1}, {2, 2}, {2, 3}, {3, 2}, {3, 3}} {
			a, b := sides[0], sides[1]
			if size == 5 && a*b > 4 {
				continue
			}
			for list := range probe.Lists(size, 0, a*b-1) {
				edges := make([]api.Pair, size)
				for i, x := range list {
					edges[i] = api.Pair{A: x / b, B: x % b}
				}
				checkColors(t, a, b, edges, leastColors)
				if fewer := greatest(edges) - 1; fewer > 0 && leastColors(edges, fewer) != nil {
					t.Fatalf("%v has a colouring with %d numbers", edges, fewer)
				}
			}
		}
	}
}

func TestColorsOfRandomGraphs(t *testing.T) {
	random := rand.New(rand.NewSource(66))
	for round := range 6000 {
		size := random.Intn(api.MaxWires + 1)
		if round%2 == 0 {
			size = api.MaxWires
		}
		a, b := 1+random.Intn(6), 1+random.Intn(6)
		checkColors(t, a, b, randomPairs(random, size, a, b), leastByCompletion)
	}
}

// Graphs whose least beginnings cannot be completed, and those with the
// greatest degrees.
func TestColorsOfHardGraphs(t *testing.T) {
	graphs := [][]api.Pair{
		pairs(0, 0, 1, 1, 2, 2, 3, 3, 4, 4, 5, 5),
		pairs(1, 0, 2, 1, 3, 2, 4, 3, 5, 4, 1, 5, 0, 0, 0, 1, 0, 2, 0, 3, 0, 4, 0, 5),
		pairs(0, 0, 2, 1, 2, 2, 0, 2, 0, 2, 2, 2, 2, 2, 2, 2, 0, 2, 0, 2, 0, 2, 2, 2),
		pairs(2, 1, 2, 2, 0, 1, 3, 2, 1, 1, 1, 1, 1, 1, 1, 1, 1, 1, 1, 0, 1, 1, 1, 2),
		pairs(3, 5, 2, 5, 3, 2, 2, 3, 1, 0, 0, 1, 3, 4, 3, 4, 3, 4, 5, 4, 3, 4, 2, 4),
		slices.Repeat(pairs(5, 5), 12),
		slices.Repeat(pairs(0, 5, 5, 0), 6),
		slices.Repeat(pairs(0, 0, 1, 1, 0, 1, 1, 0), 3),
		pairs(0, 0, 1, 0, 2, 0, 3, 0, 4, 0, 5, 0, 0, 5, 1, 5, 2, 5, 3, 5, 4, 5, 5, 5),
	}
	for _, edges := range graphs {
		checkColors(t, 6, 6, edges, leastByCompletion)
		slices.Reverse(edges)
		checkColors(t, 6, 6, edges, leastByCompletion)
	}
}

// Vertices without edges do not matter.
func TestColorsWithOtherSides(t *testing.T) {
	edges := pairs(0, 1, 1, 0, 1, 1, 0, 0, 1, 0)
	want := colored(t, 2, 2, edges)
	for a := 2; a <= 6; a++ {
		for b := 2; b <= 6; b++ {
			if got := colored(t, a, b, edges); !slices.Equal(got, want) {
				t.Errorf("Colors(%d, %d, %v) = %v, want %v", a, b, edges, got, want)
			}
		}
	}
}
