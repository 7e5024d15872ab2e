package route_test

import (
	"math"
	"math/rand"
	"slices"
	"testing"

	"bellpull/api"
	"bellpull/probe"
	"bellpull/route"
)

func refusedOrder(t *testing.T, n int, edges []api.Pair, order []int, want api.Errno) {
	t.Helper()
	if band, cut, sum, e := route.Measure(n, edges, order); band != 0 || cut != 0 || sum != 0 || e != want {
		t.Errorf("Measure(%d, %v, %v) = %d, %d, %d, %d, want %d", n, edges, order, band, cut, sum, e, want)
	}
	if cuts, e := route.Cuts(n, edges, order); len(cuts) != 0 || e != want {
		t.Errorf("Cuts(%d, %v, %v) = %v, %d, want %d", n, edges, order, cuts, e, want)
	}
}

// refusedGraph checks all functions of a graph, with an order and with none.
func refusedGraph(t *testing.T, n int, edges []api.Pair, want api.Errno) {
	t.Helper()
	for _, order := range [][]int{nil, {0}, {0, 1}, {1, 1}, probe.Identity(8), probe.Identity(9)} {
		refusedOrder(t, n, edges, order, want)
	}
	for i, search := range searches() {
		if cost, order, e := search(n, edges); cost != 0 || len(order) != 0 || e != want {
			t.Errorf("%s(%d, %v) = %d, %v, %d, want %d", names[i], n, edges, cost, order, e, want)
		}
	}
	if bound, e := route.Bound(n, edges); bound != 0 || e != want {
		t.Errorf("Bound(%d, %v) = %d, %d, want %d", n, edges, bound, e, want)
	}
}

// Too many edges are refused before a graph that is not valid otherwise.
func TestLongGraphsRefused(t *testing.T) {
	for _, size := range []int{31, 32, 5000} {
		for _, n := range append(probe.Outside(1, 8), 1, 2, 8) {
			refusedGraph(t, n, slices.Repeat(pairs(0, 1), size), api.ErrLong)
			refusedGraph(t, n, slices.Repeat(pairs(0, 0), size), api.ErrLong)
			refusedGraph(t, n, slices.Repeat(pairs(-1, 9), size), api.ErrLong)
		}
	}
	for n := 2; n <= api.MaxRooms; n++ {
		found(t, n, slices.Repeat(pairs(n-1, 0), 30))
	}
}

func TestVerticesRefused(t *testing.T) {
	for _, n := range probe.Outside(1, 8) {
		for _, edges := range [][]api.Pair{nil, pairs(0, 1), pairs(0, 0), pairs(-1, 0), pairs(8, 0), slices.Repeat(pairs(0, 1), 30)} {
			refusedGraph(t, n, edges, api.ErrArg)
		}
	}
}

// An edge beyond the vertices, or from one to itself, is refused wherever it is.
func TestEdgesRefused(t *testing.T) {
	for n := 1; n <= api.MaxRooms; n++ {
		var all []api.Pair
		for _, x := range probe.Outside(0, n-1) {
			all = append(all, pairs(x, 0, 0, x, x, n-1, n-1, x, x, x)...)
		}
		for x := range n {
			all = append(all, api.Pair{A: x, B: x})
		}
		for _, bad := range all {
			refusedGraph(t, n, []api.Pair{bad}, api.ErrArg)
			if n > 1 {
				refusedGraph(t, n, append(slices.Repeat(pairs(0, 1), 29), bad), api.ErrArg)
				refusedGraph(t, n, append([]api.Pair{bad}, pairs(0, 1, 1, 0)...), api.ErrArg)
			}
		}
	}
}

// A graph is refused before the order, of which this is all that is checked.
func TestOrdersRefused(t *testing.T) {
	random := rand.New(rand.NewSource(76))
	for n := 1; n <= api.MaxRooms; n++ {
		for _, order := range append(probe.BadPerms(n), nil, []int{}) {
			refusedOrder(t, n, nil, order, api.ErrForm)
			refusedOrder(t, n, pairs(0, 0), order, api.ErrArg)
			refusedOrder(t, n, make([]api.Pair, 31), order, api.ErrLong)
			if n > 1 {
				refusedOrder(t, n, randomEdges(random, 30, n), order, api.ErrForm)
			}
		}
	}
}

func TestReverseRefused(t *testing.T) {
	all := [][]int{nil, {}, probe.Identity(9), probe.Identity(10), probe.Identity(5000), {1}, {-1}, {1, 2}}
	for n := 1; n <= api.MaxRooms; n++ {
		for _, order := range probe.BadPerms(n) {
			if len(order) == n {
				all = append(all, order)
			}
		}
	}
	for _, order := range all {
		if got, e := route.Reverse(order); len(got) != 0 || e != api.ErrForm {
			t.Errorf("Reverse(%v) = %v, %d", order, got, e)
		}
	}
}

// R4: nil and an empty slice are the same list of edges.
func TestEmptyLists(t *testing.T) {
	for _, none := range [][]api.Pair{nil, {}} {
		for n := 1; n <= api.MaxRooms; n++ {
			checkOrder(t, n, none, probe.Identity(n))
			if got, e := route.Bound(n, none); got != 0 || e != api.ErrNone {
				t.Errorf("Bound(%d, nothing) = %d, %d", n, got, e)
			}
			if n <= 5 {
				checkSearches(t, n, none)
			}
		}
	}
}

// R1: the functions end, and do not panic, for whatever numbers there are.
func TestStrangeArguments(t *testing.T) {
	random := rand.New(rand.NewSource(77))
	pool := []int{math.MinInt, math.MinInt32, -2, -1, 0, 0, 1, 1, 2, 2, 3, 4, 5, 6, 7, 7, 8, 9, math.MaxInt32, math.MaxInt}
	some := func() int { return pool[random.Intn(len(pool))] }
	for range 100000 {
		n, order, edges := some(), make([]int, random.Intn(10)), make([]api.Pair, random.Intn(33))
		for i := range order {
			order[i] = some()
		}
		if random.Intn(2) == 0 {
			order = random.Perm(1 + random.Intn(9))
		}
		for i := range edges {
			edges[i] = api.Pair{A: some(), B: some()}
		}
		route.Measure(n, edges, order)
		route.Cuts(n, edges, order)
		route.Band(n, edges)
		route.Cut(n, edges)
		route.Arrange(n, edges)
		route.Bound(n, edges)
		route.Reverse(order)
	}
}

// ofEdges are calls with edges of eight vertices, each with its result as a list.
func ofEdges() map[string]func(edges []api.Pair) []int {
	order := []int{3, 1, 4, 0, 5, 2, 6, 7}
	return map[string]func(edges []api.Pair) []int{
		"Measure": func(l []api.Pair) []int { a, b, c, _ := route.Measure(8, l, order); return []int{a, b, c} },
		"Cuts":    func(l []api.Pair) []int { cuts, _ := route.Cuts(8, l, order); return cuts },
		"Band":    func(l []api.Pair) []int { n, order, _ := route.Band(8, l); return append(order, n) },
		"Cut":     func(l []api.Pair) []int { n, order, _ := route.Cut(8, l); return append(order, n) },
		"Arrange": func(l []api.Pair) []int { n, order, _ := route.Arrange(8, l); return append(order, n) },
		"Bound":   func(l []api.Pair) []int { n, e := route.Bound(8, l); return []int{n, int(e)} },
	}
}

// ofOrders are calls with an order of four vertices.
func ofOrders() map[string]func(order []int) []int {
	edges := pairs(0, 1, 2, 3, 0, 3, 0, 3)
	return map[string]func(order []int) []int{
		"Measure": func(l []int) []int { a, b, c, _ := route.Measure(4, edges, l); return []int{a, b, c} },
		"Cuts":    func(l []int) []int { cuts, _ := route.Cuts(4, edges, l); return cuts },
		"Reverse": func(l []int) []int { order, _ := route.Reverse(l); return order },
	}
}

// R5 and R6: arguments stay as they are, results are new memory, and the same
// arguments have the same result, whatever their capacity.
func TestArgumentsAndResults(t *testing.T) {
	random := rand.New(rand.NewSource(78))
	for name, call := range ofEdges() {
		for size := 1; size <= api.MaxEdges; size++ {
			edges := randomEdges(random, size, 8)
			if wrong := probe.Memory(edges, api.Pair{A: 1, B: 6}, call); wrong != "" {
				t.Errorf("%s(%v) %s", name, edges, wrong)
			}
		}
	}
	for name, call := range ofOrders() {
		for order := range probe.Perms(4) {
			if wrong := probe.Memory(order, 2, call); wrong != "" {
				t.Errorf("%s(%v) %s", name, order, wrong)
			}
		}
	}
}

// R6: calls in between, also refused ones, change nothing.
func TestCallsDoNotMatterToEachOther(t *testing.T) {
	random := rand.New(rand.NewSource(79))
	edges := randomEdges(random, 12, 8)
	for name, call := range ofEdges() {
		want := call(edges)
		for range 10 {
			call(randomEdges(random, random.Intn(31), 8))
			call(pairs(0, 1, 1, 1))
			call(slices.Repeat(edges, 3))
			if got := call(edges); !slices.Equal(got, want) {
				t.Errorf("%s(%v) = %v, then %v", name, edges, want, got)
			}
		}
	}
}
