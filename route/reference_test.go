package route_test

import (
	"math/rand"
	"slices"
	"testing"

	"bellpull/api"
	"bellpull/probe"
	"bellpull/route"
)

// The references below follow the definitions of the chapter word by word, and
// share no code with the package.

// pairs makes edges of their numbers.
func pairs(numbers ...int) []api.Pair {
	var list []api.Pair
	for i := 0; i < len(numbers); i += 2 {
		list = append(list, api.Pair{A: numbers[i], B: numbers[i+1]})
	}
	return list
}

// measures are the bandwidth, the cutwidth and the sum, in this order.
type measures [3]int

func measuresOf(edges []api.Pair, order []int) measures {
	var m measures
	position := make([]int, len(order))
	for p, vertex := range order {
		position[vertex] = p
	}
	for _, edge := range edges {
		length := position[edge.A] - position[edge.B]
		if length < 0 {
			length = -length
		}
		m[0] = max(m[0], length)
		m[2] += length
	}
	m[1] = slices.Max(append(crossings(edges, position), 0))
	return m
}

// crossings are the numbers of edges from positions of at most p to greater ones.
func crossings(edges []api.Pair, position []int) []int {
	cuts := make([]int, len(position)-1)
	for p := range cuts {
		for _, edge := range edges {
			if (position[edge.A] <= p) != (position[edge.B] <= p) {
				cuts[p]++
			}
		}
	}
	return cuts
}

// leastOf looks at all orders for the first one of each measure.
func leastOf(n int, edges []api.Pair) (measures, [3][]int) {
	var least measures
	var orders [3][]int
	for order := range probe.Perms(n) {
		m := measuresOf(edges, order)
		for i := range m {
			if orders[i] == nil || m[i] < least[i] {
				least[i], orders[i] = m[i], order
			}
		}
	}
	return least, orders
}

// neighbours are the different vertices that an edge joins to one.
func neighbours(edges []api.Pair, vertex int) map[int]bool {
	all := map[int]bool{}
	for _, edge := range edges {
		if edge.A == vertex {
			all[edge.B] = true
		}
		if edge.B == vertex {
			all[edge.A] = true
		}
	}
	return all
}

// farthest is the greatest distance from a vertex, and whether there is a path
// to each other one.
func farthest(n int, edges []api.Pair, vertex int) (int, bool) {
	distance := map[int]int{vertex: 0}
	queue := []int{vertex}
	far := 0
	for len(queue) > 0 {
		next := queue[0]
		queue = queue[1:]
		for other := range neighbours(edges, next) {
			if _, is := distance[other]; !is {
				distance[other] = distance[next] + 1
				far = max(far, distance[other])
				queue = append(queue, other)
			}
		}
	}
	return far, len(distance) == n
}

// boundOf is Bound by its definition.
func boundOf(n int, edges []api.Pair) (int, api.Errno) {
	diameter, most := 0, 0
	for vertex := range n {
		far, all := farthest(n, edges, vertex)
		if !all || n < 2 {
			return 0, api.ErrNone
		}
		diameter = max(diameter, far)
		most = max(most, len(neighbours(edges, vertex)))
	}
	byDistance, byCrowd := 0, 0
	for byDistance*diameter < n-1 {
		byDistance++
	}
	for byCrowd*2 < most {
		byCrowd++
	}
	return max(byDistance, byCrowd), api.OK
}

// graphs yields all graphs with n vertices in which at most so many edges join
// the same two.
func graphs(n, most int, check func(edges []api.Pair)) {
	two := complete(n)
	for times := range probe.Lists(len(two), 0, most) {
		var edges []api.Pair
		for i, edge := range two {
			edges = append(edges, slices.Repeat([]api.Pair{edge}, times[i])...)
		}
		check(edges)
	}
}

// complete has an edge between any two vertices.
func complete(n int) []api.Pair {
	var edges []api.Pair
	for b := range n {
		for a := range b {
			edges = append(edges, api.Pair{A: a, B: b})
		}
	}
	return edges
}

// randomEdges joins vertices below n, which is 2 or more.
func randomEdges(random *rand.Rand, size, n int) []api.Pair {
	edges := make([]api.Pair, size)
	for i := range edges {
		two := random.Perm(n)
		edges[i] = api.Pair{A: two[0], B: two[1]}
	}
	return edges
}

// renamed gives each vertex another number.
func renamed(edges []api.Pair, names []int) []api.Pair {
	other := make([]api.Pair, len(edges))
	for i, edge := range edges {
		other[i] = api.Pair{A: names[edge.A], B: names[edge.B]}
	}
	return other
}

type least = func(n int, edges []api.Pair) (int, []int, api.Errno)

// searches are the functions that look for an order, as their measures are listed.
func searches() [3]least { return [3]least{route.Band, route.Cut, route.Arrange} }

var names = [3]string{"Band", "Cut", "Arrange"}

// The following return what a function does for arguments that it accepts.

func measured(t *testing.T, n int, edges []api.Pair, order []int) measures {
	t.Helper()
	band, cut, sum, e := route.Measure(n, edges, order)
	if e != api.OK {
		t.Fatalf("Measure(%d, %v, %v): %d", n, edges, order, e)
	}
	return measures{band, cut, sum}
}

func cutsOf(t *testing.T, n int, edges []api.Pair, order []int) []int {
	t.Helper()
	cuts, e := route.Cuts(n, edges, order)
	if e != api.OK {
		t.Fatalf("Cuts(%d, %v, %v): %d", n, edges, order, e)
	}
	return cuts
}

func reversed(t *testing.T, order []int) []int {
	t.Helper()
	other, e := route.Reverse(order)
	if e != api.OK {
		t.Fatalf("Reverse(%v): %d", order, e)
	}
	return other
}

// found are the results of Band, Cut and Arrange.
func found(t *testing.T, n int, edges []api.Pair) (measures, [3][]int) {
	t.Helper()
	var m measures
	var orders [3][]int
	for i, search := range searches() {
		cost, order, e := search(n, edges)
		if e != api.OK {
			t.Fatalf("%s(%d, %v): %d", names[i], n, edges, e)
		}
		m[i], orders[i] = cost, order
	}
	return m, orders
}
