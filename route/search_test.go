package route_test

import (
	"math/rand"
	"slices"
	"testing"

	"bellpull/api"
	"bellpull/probe"
	"bellpull/route"
)

// checkSearches compares Band, Cut and Arrange with all orders, and checks G3
// and G4.
func checkSearches(t *testing.T, n int, edges []api.Pair) {
	t.Helper()
	got, orders := found(t, n, edges)
	want, first := leastOf(n, edges)
	for i, name := range names {
		if got[i] != want[i] || !slices.Equal(orders[i], first[i]) {
			t.Fatalf("%s(%d, %v) = %d, %v, want %d, %v", name, n, edges, got[i], orders[i], want[i], first[i])
		}
	}
	checkBetween(t, n, edges, got, orders)
}

// checkBetween checks what G1, G3 and G4 say of the three results.
func checkBetween(t *testing.T, n int, edges []api.Pair, got measures, orders [3][]int) {
	t.Helper()
	for i, name := range names {
		if measured(t, n, edges, orders[i])[i] != got[i] {
			t.Fatalf("%s(%d, %v) = %d, %v, which has another measure", name, n, edges, got[i], orders[i])
		}
	}
	if bound, e := route.Bound(n, edges); e == api.OK && bound > got[0] {
		t.Fatalf("Bound(%d, %v) = %d, Band is %d", n, edges, bound, got[0])
	}
	if got[0] > n-1 || got[1] > len(edges) || got[2] > (n-1)*got[1] || got[2] < len(edges) {
		t.Fatalf("Band, Cut and Arrange(%d, %v) = %v", n, edges, got)
	}
}

// The chapter's examples, the overview's one, and graphs for which there are formulas.
func TestKnownGraphs(t *testing.T) {
	cube := pairs(0, 1, 2, 3, 4, 5, 6, 7, 0, 2, 1, 3, 4, 6, 5, 7, 0, 4, 1, 5, 2, 6, 3, 7)
	cases := []struct {
		n      int
		edges  []api.Pair
		want   measures
		orders [3][]int
	}{
		{1, nil, measures{0, 0, 0}, [3][]int{{0}, {0}, {0}}},
		{3, pairs(0, 1, 1, 2), measures{1, 1, 2}, [3][]int{{0, 1, 2}, {0, 1, 2}, {0, 1, 2}}},
		{4, pairs(0, 1, 0, 2, 0, 3), measures{2, 2, 4}, [3][]int{{1, 0, 2, 3}, {1, 0, 2, 3}, {1, 0, 2, 3}}},
		{4, pairs(0, 1, 1, 2, 2, 3, 3, 0), measures{2, 2, 6}, [3][]int{{0, 1, 3, 2}, {0, 1, 2, 3}, {0, 1, 2, 3}}},
		{3, pairs(0, 2, 0, 2, 0, 2, 1, 2), measures{1, 3, 4}, [3][]int{{0, 2, 1}, {0, 2, 1}, {0, 2, 1}}},
		{8, cube, measures{4, 5, 28}, [3][]int{{0, 1, 2, 3, 4, 5, 6, 7}, {0, 1, 2, 3, 4, 5, 6, 7}, {0, 1, 2, 3, 4, 5, 6, 7}}},
		{8, slices.Repeat(pairs(0, 7), 30), measures{1, 30, 30}, [3][]int{{0, 7, 1, 2, 3, 4, 5, 6}, {0, 1, 2, 3, 4, 5, 6, 7}, {0, 7, 1, 2, 3, 4, 5, 6}}},
	}
	for _, c := range cases {
		got, orders := found(t, c.n, c.edges)
		if got != c.want {
			t.Errorf("Band, Cut and Arrange(%d, %v) = %v, want %v", c.n, c.edges, got, c.want)
		}
		for i, name := range names {
			if !slices.Equal(orders[i], c.orders[i]) {
				t.Errorf("%s(%d, %v) has the order %v, want %v", name, c.n, c.edges, orders[i], c.orders[i])
			}
		}
	}
}

// Paths, cycles and stars of all sizes have the measures that are known.
func TestKnownFamilies(t *testing.T) {
	for n := 2; n <= api.MaxRooms; n++ {
		var path, star []api.Pair
		for i := 1; i < n; i++ {
			path = append(path, api.Pair{A: i - 1, B: i})
			star = append(star, api.Pair{A: i, B: 0})
		}
		if got, _ := found(t, n, path); got != (measures{1, 1, n - 1}) {
			t.Errorf("a path of %d has %v", n, got)
		}
		if got, _ := found(t, n, star); got != (measures{n / 2, n / 2, n * n / 4}) {
			t.Errorf("a star of %d has %v", n, got)
		}
		if n < 3 {
			continue
		}
		if got, _ := found(t, n, append(path, api.Pair{A: 0, B: n - 1})); got != (measures{2, 2, 2 * (n - 1)}) {
			t.Errorf("a cycle of %d has %v", n, got)
		}
	}
}

// G5: in complete graphs, and in those without edges, all orders are the same.
func TestCompleteAndEmptyGraphs(t *testing.T) {
	for n := 1; n <= api.MaxRooms; n++ {
		checkUniform(t, n, complete(n), measures{n - 1, n * n / 4, (n + 1) * n * (n - 1) / 6})
		checkUniform(t, n, nil, measures{})
	}
}

// checkUniform checks a graph of which all orders have the same measures.
func checkUniform(t *testing.T, n int, edges []api.Pair, want measures) {
	t.Helper()
	got, orders := found(t, n, edges)
	if got != want {
		t.Errorf("Band, Cut and Arrange(%d, %v) = %v, want %v", n, edges, got, want)
	}
	for i, name := range names {
		if !slices.Equal(orders[i], probe.Identity(n)) {
			t.Errorf("%s(%d, %v) has the order %v", name, n, edges, orders[i])
		}
	}
}

// All graphs with up to five vertices, some of them with edges that occur twice.
func TestSearchesOfAllSmallGraphs(t *testing.T) {
	for n := 1; n <= 5; n++ {
		graphs(n, 1, func(edges []api.Pair) { checkSearches(t, n, edges) })
	}
	graphs(3, 3, func(edges []api.Pair) { checkSearches(t, 3, edges) })
	graphs(4, 2, func(edges []api.Pair) { checkSearches(t, 4, edges) })
}

func TestSearchesOfRandomGraphs(t *testing.T) {
	random := rand.New(rand.NewSource(73))
	for n := 5; n <= api.MaxRooms; n++ {
		rounds := []int{5: 40, 6: 20, 7: 6, 8: 1}[n]
		for size := range api.MaxEdges + 1 {
			for range rounds {
				checkSearches(t, n, randomEdges(random, size, n))
			}
		}
	}
}

// G6: an edge more, which may join two that are joined already, or two parts.
func TestAnEdgeMore(t *testing.T) {
	random := rand.New(rand.NewSource(74))
	for n := 2; n <= api.MaxRooms; n++ {
		for range 6 {
			edges := randomEdges(random, api.MaxEdges, n)
			var before measures
			for size := range len(edges) + 1 {
				got, orders := found(t, n, edges[:size])
				checkBetween(t, n, edges[:size], got, orders)
				for i, name := range names {
					if got[i] < before[i] {
						t.Fatalf("%s(%d, %v) = %d, without the last edge it is %d", name, n, edges[:size], got[i], before[i])
					}
				}
				before = got
			}
		}
	}
}

// G8, and that neither the order of the edges nor that of their ends matters.
func TestRenamed(t *testing.T) {
	random := rand.New(rand.NewSource(75))
	for n := 2; n <= api.MaxRooms; n++ {
		for size := range api.MaxEdges + 1 {
			edges := randomEdges(random, size, n)
			got, orders := found(t, n, edges)
			if other, _ := found(t, n, renamed(edges, random.Perm(n))); other != got {
				t.Fatalf("Band, Cut and Arrange(%d, %v) = %v, renamed %v", n, edges, got, other)
			}
			turned := slices.Clone(edges)
			random.Shuffle(size, func(i, j int) { turned[i], turned[j] = turned[j], turned[i] })
			for i, edge := range turned {
				turned[i] = api.Pair{A: edge.B, B: edge.A}
			}
			other, others := found(t, n, turned)
			if other != got || !slices.EqualFunc(orders[:], others[:], slices.Equal) {
				t.Fatalf("Band, Cut and Arrange(%d, %v) = %v, %v, turned %v, %v", n, edges, got, orders, other, others)
			}
		}
	}
}
