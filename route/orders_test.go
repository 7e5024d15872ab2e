package route_test

import (
	"math/rand"
	"slices"
	"testing"

	"bellpull/api"
	"bellpull/probe"
	"bellpull/route"
)

// checkOrder compares Measure and Cuts with their definitions, and checks G2
// and G7.
func checkOrder(t *testing.T, n int, edges []api.Pair, order []int) {
	t.Helper()
	position := make([]int, n)
	for p, vertex := range order {
		position[vertex] = p
	}
	m, cuts := measured(t, n, edges, order), cutsOf(t, n, edges, order)
	if m != measuresOf(edges, order) || !slices.Equal(cuts, crossings(edges, position)) {
		t.Fatalf("Measure and Cuts(%d, %v, %v) = %v, %v", n, edges, order, m, cuts)
	}
	widest, sum := 0, 0
	for _, cut := range cuts {
		widest, sum = max(widest, cut), sum+cut
	}
	if m[1] != widest || m[2] != sum {
		t.Fatalf("Measure(%d, %v, %v) = %v, the cuts are %v", n, edges, order, m, cuts)
	}
	other := reversed(t, order)
	for p := range order {
		if other[p] != order[n-1-p] {
			t.Fatalf("Reverse(%v) = %v", order, other)
		}
	}
	slices.Reverse(cuts)
	if measured(t, n, edges, other) != m || !slices.Equal(cutsOf(t, n, edges, other), cuts) {
		t.Fatalf("%v, the reverse of %v, has other measures or cuts with %d, %v", other, order, n, edges)
	}
}

func TestOrdersByHand(t *testing.T) {
	star := pairs(0, 1, 0, 2, 0, 3)
	cases := []struct {
		n     int
		edges []api.Pair
		order []int
		want  measures
		cuts  []int
	}{
		{1, nil, []int{0}, measures{0, 0, 0}, nil},
		{2, nil, []int{1, 0}, measures{0, 0, 0}, []int{0}},
		{2, pairs(0, 1, 1, 0, 0, 1), []int{1, 0}, measures{1, 3, 3}, []int{3}},
		{4, star, []int{0, 1, 2, 3}, measures{3, 3, 6}, []int{3, 2, 1}},
		{4, star, []int{1, 0, 2, 3}, measures{2, 2, 4}, []int{1, 2, 1}},
		{3, pairs(0, 1, 1, 2), []int{0, 2, 1}, measures{2, 2, 3}, []int{1, 2}},
		{5, pairs(0, 4, 4, 0, 1, 2), []int{0, 3, 1, 2, 4}, measures{4, 3, 9}, []int{2, 2, 3, 2}},
		{8, slices.Repeat(pairs(7, 0), 30), probe.Identity(8), measures{7, 30, 210}, slices.Repeat([]int{30}, 7)},
	}
	for _, c := range cases {
		if got := measured(t, c.n, c.edges, c.order); got != c.want {
			t.Errorf("Measure(%d, %v, %v) = %v, want %v", c.n, c.edges, c.order, got, c.want)
		}
		if got := cutsOf(t, c.n, c.edges, c.order); !slices.Equal(got, c.cuts) {
			t.Errorf("Cuts(%d, %v, %v) = %v, want %v", c.n, c.edges, c.order, got, c.cuts)
		}
	}
	if got := reversed(t, []int{2, 0, 1}); !slices.Equal(got, []int{1, 0, 2}) {
		t.Errorf("Reverse([2 0 1]) = %v", got)
	}
}

// All orders of all graphs with up to four vertices.
func TestOrdersOfSmallGraphs(t *testing.T) {
	for n := 1; n <= 4; n++ {
		graphs(n, 2, func(edges []api.Pair) {
			for order := range probe.Perms(n) {
				checkOrder(t, n, edges, order)
			}
		})
	}
}

func TestOrdersOfRandomGraphs(t *testing.T) {
	random := rand.New(rand.NewSource(71))
	for n := 2; n <= api.MaxRooms; n++ {
		for size := range api.MaxEdges + 1 {
			for range 100 {
				checkOrder(t, n, randomEdges(random, size, n), random.Perm(n))
			}
		}
	}
}

// Each order of up to eight vertices has a reverse, whose reverse it is.
func TestReverseOfAllOrders(t *testing.T) {
	for n := 1; n <= api.MaxRooms; n++ {
		for order := range probe.Perms(n) {
			want := make([]int, n)
			for p, vertex := range order {
				want[n-1-p] = vertex
			}
			got := reversed(t, order)
			if !slices.Equal(got, want) || !slices.Equal(reversed(t, got), order) {
				t.Fatalf("Reverse(%v) = %v", order, got)
			}
		}
	}
}

func checkBound(t *testing.T, n int, edges []api.Pair) api.Errno {
	t.Helper()
	got, e := route.Bound(n, edges)
	if want, expected := boundOf(n, edges); got != want || e != expected {
		t.Fatalf("Bound(%d, %v) = %d, %d, want %d, %d", n, edges, got, e, want, expected)
	}
	return e
}

func TestBoundByHand(t *testing.T) {
	cases := []struct {
		n     int
		edges []api.Pair
		want  int
		e     api.Errno
	}{
		{1, nil, 0, api.ErrNone},
		{2, nil, 0, api.ErrNone},
		{2, pairs(1, 0), 1, api.OK},
		{3, pairs(0, 1), 0, api.ErrNone},
		{3, pairs(0, 1, 2, 1), 1, api.OK},
		{4, pairs(0, 1, 1, 2, 2, 3, 3, 0), 2, api.OK},
		{4, pairs(0, 1, 2, 3), 0, api.ErrNone},
		{4, pairs(0, 1, 0, 2, 0, 3), 2, api.OK},
		// A neighbour counts once, however many edges there are.
		{2, slices.Repeat(pairs(0, 1), 30), 1, api.OK},
		{3, slices.Repeat(pairs(0, 1, 1, 2), 15), 1, api.OK},
		// The crowd around a vertex decides, then the distance.
		{8, pairs(0, 1, 0, 2, 0, 3, 0, 4, 0, 5, 5, 6, 6, 7), 3, api.OK},
		{8, pairs(0, 1, 1, 2, 2, 3, 3, 4, 4, 5, 5, 6, 6, 7, 7, 0), 2, api.OK},
		{8, complete(8), 7, api.OK},
		{8, pairs(0, 1, 1, 2, 2, 3, 3, 4, 4, 5, 5, 6, 6, 7), 1, api.OK},
		{8, pairs(0, 1, 1, 2, 2, 3, 3, 4, 4, 5, 5, 6, 6, 0), 0, api.ErrNone},
	}
	for _, c := range cases {
		if got, e := route.Bound(c.n, c.edges); got != c.want || e != c.e {
			t.Errorf("Bound(%d, %v) = %d, %d, want %d, %d", c.n, c.edges, got, e, c.want, c.e)
		}
	}
}

func TestBoundOfAllSmallGraphs(t *testing.T) {
	for n := 1; n <= 6; n++ {
		graphs(n, 1, func(edges []api.Pair) { checkBound(t, n, edges) })
	}
	graphs(4, 2, func(edges []api.Pair) { checkBound(t, 4, edges) })
}

func TestBoundOfRandomGraphs(t *testing.T) {
	random := rand.New(rand.NewSource(72))
	seen := map[api.Errno]int{}
	for n := 2; n <= api.MaxRooms; n++ {
		for size := range api.MaxEdges + 1 {
			for range 200 {
				seen[checkBound(t, n, randomEdges(random, size, n))]++
			}
		}
	}
	if seen[api.OK] < 1000 || seen[api.ErrNone] < 1000 {
		t.Errorf("the graphs are too much alike: %v", seen)
	}
}
