package patch_test

import (
	"math/rand"
	"slices"
	"testing"

	"bellpull/api"
	"bellpull/patch"
	"bellpull/probe"
)

// The chapter's first example, and the overview's one of Clos networks.
func TestClosExamples(t *testing.T) {
	perm := []int{2, 0, 1, 3}
	if got := route(t, 2, 2, 2, perm); !slices.Equal(got, []int{0, 1, 0, 1}) {
		t.Errorf("Route(2, 2, 2, %v) = %v", perm, got)
	}
	if _, e := patch.Route(2, 2, 1, perm); e != api.ErrNone {
		t.Errorf("Route(2, 2, 1, %v): %d", perm, e)
	}
	if strict(t, 2, 2, 2) || !strict(t, 2, 2, 3) {
		t.Error("two inputs to a switch do not need three middle switches to never block")
	}
}

func TestValidOfAllRoutings(t *testing.T) {
	for inputs := 1; inputs <= 5; inputs++ {
		for n, r := range shapes(inputs) {
			for m := 1; m <= 3; m++ {
				for perm := range probe.Perms(inputs) {
					for routing := range probe.Lists(inputs, 0, m-1) {
						if got := valid(t, n, r, m, perm, routing); got != isValid(n, perm, routing) {
							t.Fatalf("Valid(%d, %d, %d, %v, %v) = %t", n, r, m, perm, routing, got)
						}
					}
				}
			}
		}
	}
}

// F7: a list of middle switches is valid just if it is an edge colouring.
func TestRoutingsAreColorings(t *testing.T) {
	random := rand.New(rand.NewSource(61))
	found := map[bool]int{}
	for range 30000 {
		n := []int{1, 2, 3, 4, 6, 12}[random.Intn(6)]
		r := 1 + random.Intn(12/n)
		m := 1 + random.Intn(12)
		perm := random.Perm(n * r)
		routing := randomNumbers(random, n*r, m)
		if m >= n && random.Intn(2) == 0 {
			// One number is another one than in a valid routing.
			routing = route(t, n, r, m, perm)
			routing[random.Intn(n*r)] = random.Intn(m)
		}
		got := valid(t, n, r, m, perm, routing)
		if got != isValid(n, perm, routing) || got != isProper(links(n, perm), routing) {
			t.Fatalf("Valid(%d, %d, %d, %v, %v) = %t", n, r, m, perm, routing, got)
		}
		found[got]++
	}
	if found[true] < 1000 || found[false] < 1000 {
		t.Errorf("the routings are too much alike: %v", found)
	}
}

// checkRoute checks F1 for a permutation and a number of middle switches.
func checkRoute(t *testing.T, n, r, m int, perm []int) {
	t.Helper()
	got, e := patch.Route(n, r, m, perm)
	if m < n {
		if len(got) != 0 || e != api.ErrNone {
			t.Fatalf("Route(%d, %d, %d, %v) = %v, %d", n, r, m, perm, got, e)
		}
		return
	}
	if e != api.OK || len(got) != n*r || slices.Min(got) < 0 || slices.Max(got) >= m || !isValid(n, perm, got) || !valid(t, n, r, m, perm, got) {
		t.Fatalf("Route(%d, %d, %d, %v) = %v, %d", n, r, m, perm, got, e)
	}
}

// F1 for all permutations of up to 8 inputs.
func TestRoutesOfAllPermutations(t *testing.T) {
	for inputs := 1; inputs <= 8; inputs++ {
		for n, r := range shapes(inputs) {
			for perm := range probe.Perms(inputs) {
				for m := max(1, n-1); m <= n+1; m++ {
					checkRoute(t, n, r, m, perm)
				}
			}
		}
	}
}

// The routing is the least one of all lists that are valid.
func TestLeastRoutes(t *testing.T) {
	for inputs := 1; inputs <= 6; inputs++ {
		for n, r := range shapes(inputs) {
			for perm := range probe.Perms(inputs) {
				for m := n; m <= min(4, n+1); m++ {
					if got, want := route(t, n, r, m, perm), leastRouting(n, m, perm); !slices.Equal(got, want) {
						t.Fatalf("Route(%d, %d, %d, %v) = %v, want %v", n, r, m, perm, got, want)
					}
				}
			}
		}
	}
}

// F1, F7 and the least routings in all networks, up to the limits.
func TestLargeRoutes(t *testing.T) {
	random := rand.New(rand.NewSource(62))
	for inputs := 1; inputs <= api.MaxWires; inputs++ {
		for n, r := range shapes(inputs) {
			for m := 1; m <= 12; m++ {
				for range 30 {
					perm := random.Perm(inputs)
					checkRoute(t, n, r, m, perm)
					if m < n {
						continue
					}
					got := route(t, n, r, m, perm)
					if want := leastByCompletion(links(n, perm), m); !slices.Equal(got, want) {
						t.Fatalf("Route(%d, %d, %d, %v) = %v, want %v", n, r, m, perm, got, want)
					}
					if m == n && r <= 6 && !slices.Equal(got, colored(t, r, r, links(n, perm))) {
						t.Fatalf("Route(%d, %d, %d, %v) = %v is not the colouring", n, r, m, perm, got)
					}
				}
			}
		}
	}
}

// All lists of three requests in networks of up to four inputs, with an input
// or an output that is in use already, and where no middle switch is free.
func TestServeAllShortLists(t *testing.T) {
	for inputs := 1; inputs <= 4; inputs++ {
		for n, r := range shapes(inputs) {
			for m := 1; m <= 2; m++ {
				for a := range probe.Lists(3, 0, inputs-1) {
					for b := range probe.Lists(3, -1, inputs-1) {
						checkServe(t, n, r, m, pairs(a[0], b[0], a[1], b[1], a[2], b[2]))
					}
				}
			}
		}
	}
}

func TestServeByHand(t *testing.T) {
	cases := []struct {
		n, r, m  int
		requests []api.Pair
		want     []int
	}{
		{2, 2, 2, pairs(2, 0, 3, 1, 2, -1, 0, 2, 1, 0, 1, 2, 1, -1), []int{0, 1, 0, 0, -1, -2, -2}},
		{1, 1, 1, pairs(0, 0, 0, 0, 0, -1, 0, -1, 0, 0), []int{0, -2, 0, -2, 0}},
		{2, 1, 1, pairs(0, 0, 1, 1, 0, 1, 1, 0, 0, -1, 1, 0), []int{0, -1, -2, -2, 0, 0}},
		{1, 2, 1, pairs(0, 1, 1, 1, 1, 0, 0, 0), []int{0, -2, 0, -2}},
		{3, 1, 3, pairs(0, 0, 1, 1, 2, 2, 1, -1, 0, -1, 1, 0, 0, 1), []int{0, 1, 2, 1, 0, 0, 1}},
		{2, 3, 3, pairs(0, 0, 2, 1, 4, 2, 1, 3, 3, 4, 5, 5), []int{0, 1, 0, 1, 0, 1}},
		// A blocked request leaves nothing behind, neither does a refused one.
		{2, 2, 1, pairs(0, 0, 1, 2, 1, -1, 2, 3, 2, 2, 3, 2), []int{0, -1, -2, 0, -2, -1}},
	}
	for _, c := range cases {
		if got := checkServe(t, c.n, c.r, c.m, c.requests); !slices.Equal(got, c.want) {
			t.Errorf("Serve(%d, %d, %d, %v) = %v, want %v", c.n, c.r, c.m, c.requests, got, c.want)
		}
	}
}

// randomRequests disconnects one input of three.
func randomRequests(random *rand.Rand, size, inputs int) []api.Pair {
	requests := randomPairs(random, size, inputs, inputs)
	for i := range requests {
		if random.Intn(3) == 0 {
			requests[i].B = -1
		}
	}
	return requests
}

// Lists up to the limit in all networks, with the first part of F2.
func TestServeLongLists(t *testing.T) {
	random := rand.New(rand.NewSource(63))
	for inputs := 1; inputs <= api.MaxWires; inputs++ {
		for n, r := range shapes(inputs) {
			for m := 1; m <= 12; m++ {
				results := map[int]bool{}
				for _, size := range []int{0, 1, 10, 99, 100, 100, 100, 100, 100, 100} {
					for _, result := range checkServe(t, n, r, m, randomRequests(random, size, inputs)) {
						results[result] = true
					}
				}
				if strict(t, n, r, m) && results[-1] {
					t.Errorf("Serve(%d, %d, %d) blocks a request", n, r, m)
				}
				if !results[-2] || !results[0] {
					t.Errorf("Serve(%d, %d, %d): only the results %v", n, r, m, results)
				}
			}
		}
	}
}

// F2: with m below n, the last one of n requests from one switch is blocked, and
// with as many as n it is not, if nothing else is connected.
func TestServeBlocks(t *testing.T) {
	random := rand.New(rand.NewSource(64))
	for inputs := 1; inputs <= api.MaxWires; inputs++ {
		for n, r := range shapes(inputs) {
			for m := 1; m <= 12; m++ {
				first := n * random.Intn(r)
				outputs := random.Perm(inputs)
				var requests []api.Pair
				for i, place := range random.Perm(n) {
					requests = append(requests, api.Pair{A: first + place, B: outputs[i]})
				}
				got := checkServe(t, n, r, m, requests)
				if last := got[n-1]; (last == -1) != (m < n) {
					t.Errorf("Serve(%d, %d, %d, %v) = %v", n, r, m, requests, got)
				}
			}
		}
	}
}

func TestStrict(t *testing.T) {
	// For each n the least m for one switch, and for several.
	least := [][2]int{1: {1, 1}, {2, 3}, {3, 5}, {4, 7}, {5, 9}, {6, 11}, {7, 13}, {8, 13}, {9, 13}, {10, 13}, {11, 13}, {12, 13}}
	for inputs := 1; inputs <= api.MaxWires; inputs++ {
		for n, r := range shapes(inputs) {
			for m := 1; m <= 12; m++ {
				want := m >= least[n][min(r-1, 1)]
				if got := strict(t, n, r, m); got != want {
					t.Errorf("Strict(%d, %d, %d) = %t", n, r, m, got)
				}
			}
		}
	}
}
