package patch_test

import (
	"math"
	"math/rand"
	"slices"
	"strings"
	"testing"

	"bellpull/api"
	"bellpull/patch"
	"bellpull/probe"
)

// refusedRoutes checks that Valid and Route return an error, and nothing with it.
func refusedRoutes(t *testing.T, n, r, m int, perm, routing []int, want api.Errno) {
	t.Helper()
	if ok, e := patch.Valid(n, r, m, perm, routing); ok || e != want {
		t.Errorf("Valid(%d, %d, %d, %v, %v) = %t, %d, want %d", n, r, m, perm, routing, ok, e, want)
	}
	if got, e := patch.Route(n, r, m, perm); len(got) != 0 || e != want {
		t.Errorf("Route(%d, %d, %d, %v) = %v, %d, want %d", n, r, m, perm, got, e, want)
	}
}

func refusedRequests(t *testing.T, n, r, m int, requests []api.Pair, want api.Errno) {
	t.Helper()
	if got, e := patch.Serve(n, r, m, requests); len(got) != 0 || e != want {
		t.Errorf("Serve(%d, %d, %d, %v) = %v, %d, want %d", n, r, m, requests, got, e, want)
	}
}

// refusedPerm checks the functions of a permutation of 2^k inputs.
func refusedPerm(t *testing.T, k int, perm []int, want api.Errno) {
	t.Helper()
	if got, e := patch.Set(k, perm); got != "" || e != want {
		t.Errorf("Set(%d, %v) = %q, %d, want %d", k, perm, got, e, want)
	}
	if got, e := patch.Omega(k, perm); got || e != want {
		t.Errorf("Omega(%d, %v) = %t, %d, want %d", k, perm, got, e, want)
	}
	if k == 3 {
		want = api.ErrArg
	}
	if got, e := patch.Ways(k, perm); got != 0 || e != want {
		t.Errorf("Ways(%d, %v) = %d, %d, want %d", k, perm, got, e, want)
	}
}

func refusedSettings(t *testing.T, k int, s string, want api.Errno) {
	t.Helper()
	if got, e := patch.Apply(k, s); len(got) != 0 || e != want {
		t.Errorf("Apply(%d, %q) = %v, %d, want %d", k, s, got, e, want)
	}
}

func refusedEdges(t *testing.T, a, b int, edges []api.Pair, want api.Errno) {
	t.Helper()
	if got, e := patch.Colors(a, b, edges); len(got) != 0 || e != want {
		t.Errorf("Colors(%d, %d, %v) = %v, %d, want %d", a, b, edges, got, e, want)
	}
}

// badNetworks are numbers of Clos networks that are not valid: one of them is
// outside its range, or n times r is, which may overflow to one that is not.
func badNetworks() [][3]int {
	all := [][3]int{{2, 7, 2}, {7, 2, 7}, {4, 4, 4}, {3, 5, 12}, {5, 3, 12}, {12, 2, 12}, {2, 12, 3}, {12, 12, 12}, {-1, -1, 1}, {-2, -3, 2}, {0, 0, 0}, {0, 0, 1}}
	for _, x := range probe.Outside(1, 12) {
		all = append(all, [3]int{x, 1, 12}, [3]int{1, x, 12}, [3]int{2, 2, x}, [3]int{x, x, 2}, [3]int{x, x, x}, [3]int{x, 12, 2}, [3]int{12, x, 2})
	}
	for shift := range 64 {
		high, low := 1<<shift, 1<<(64-shift)
		if shift >= 4 {
			all = append(all, [3]int{high, low, 3}, [3]int{low, high, 3}, [3]int{high, low + 1, 3}, [3]int{high + 1, low + 1, 12})
		}
	}
	return all
}

// A network that is not valid is refused before anything malformed.
func TestNetworksRefused(t *testing.T) {
	for _, b := range badNetworks() {
		n, r, m := b[0], b[1], b[2]
		for _, perm := range [][]int{nil, {0}, {0, 1, 2, 3}, {0, 0}, {-1}, probe.Identity(12), probe.Identity(14)} {
			refusedRoutes(t, n, r, m, perm, perm, api.ErrArg)
			refusedRoutes(t, n, r, m, perm, nil, api.ErrArg)
		}
		for _, requests := range [][]api.Pair{nil, pairs(0, 0), pairs(0, -2), pairs(-1, 0), pairs(50, 50)} {
			refusedRequests(t, n, r, m, requests, api.ErrArg)
		}
		if got, e := patch.Strict(n, r, m); got || e != api.ErrArg {
			t.Errorf("Strict(%d, %d, %d) = %t, %d", n, r, m, got, e)
		}
	}
}

// Permutations are refused before it is said that there is no routing.
func TestPermutationsRefused(t *testing.T) {
	for inputs := 1; inputs <= api.MaxWires; inputs++ {
		for n, r := range shapes(inputs) {
			for _, perm := range probe.BadPerms(inputs) {
				for _, m := range []int{1, n, 12} {
					refusedRoutes(t, n, r, m, perm, make([]int, inputs), api.ErrForm)
					refusedRoutes(t, n, r, m, perm, nil, api.ErrForm)
				}
			}
		}
	}
	for k := 1; k <= 3; k++ {
		for _, perm := range probe.BadPerms(1 << k) {
			refusedPerm(t, k, perm, api.ErrForm)
		}
	}
}

// Valid refuses a routing without a middle switch for each input, also if it
// has the same one twice.
func TestRoutingsRefused(t *testing.T) {
	for inputs := 1; inputs <= api.MaxWires; inputs++ {
		for n, r := range shapes(inputs) {
			for m := 1; m <= 12; m++ {
				all := [][]int{nil, make([]int, inputs-1), make([]int, inputs+1), make([]int, 5000)}
				for at := range inputs {
					for _, x := range probe.Outside(0, m-1) {
						routing := make([]int, inputs)
						routing[at] = x
						all = append(all, routing)
					}
				}
				for _, routing := range all {
					if ok, e := patch.Valid(n, r, m, probe.Identity(inputs), routing); ok || e != api.ErrForm {
						t.Fatalf("Valid(%d, %d, %d, identity, %v) = %t, %d", n, r, m, routing, ok, e)
					}
				}
			}
		}
	}
}

// Too many requests are refused before the network, and malformed ones after it,
// wherever they are.
func TestRequestsRefused(t *testing.T) {
	for _, size := range []int{101, 102, 5000} {
		for _, network := range append(badNetworks(), [3]int{2, 2, 2}, [3]int{12, 1, 12}) {
			refusedRequests(t, network[0], network[1], network[2], make([]api.Pair, size), api.ErrLong)
			refusedRequests(t, network[0], network[1], network[2], slices.Repeat(pairs(-1, -2), size), api.ErrLong)
		}
	}
	for inputs := 1; inputs <= api.MaxWires; inputs++ {
		for n, r := range shapes(inputs) {
			var all []api.Pair
			for _, x := range probe.Outside(0, inputs-1) {
				all = append(all, pairs(x, 0, x, -1, x, x, 0, x)...)
			}
			for _, bad := range all {
				if bad.A == 0 && bad.B == -1 {
					continue
				}
				refusedRequests(t, n, r, 2, []api.Pair{bad}, api.ErrForm)
				refusedRequests(t, n, r, 2, append(make([]api.Pair, 99), bad), api.ErrForm)
				refusedRequests(t, n, r, 2, append([]api.Pair{bad}, pairs(0, 0, 0, -1)...), api.ErrForm)
			}
			refusedRequests(t, n, r, 2, pairs(0, -2), api.ErrForm)
		}
	}
}

func TestPowersRefused(t *testing.T) {
	for _, k := range probe.Outside(1, 3) {
		for _, perm := range [][]int{nil, {0}, {0, 1}, {0, 0}, {-1}, probe.Identity(8), probe.Identity(16)} {
			refusedPerm(t, k, perm, api.ErrArg)
		}
		for _, s := range []string{"", "0", "x", "000000", strings.Repeat("0", 20), strings.Repeat("0", 56)} {
			refusedSettings(t, k, s, api.ErrArg)
		}
	}
	if got, e := patch.Ways(3, probe.Identity(8)); got != 0 || e != api.ErrArg {
		t.Errorf("Ways(3, identity) = %d, %d", got, e)
	}
	for _, k := range probe.Outside(1, 20) {
		if got, e := patch.Waksman(k); got != 0 || e != api.ErrArg {
			t.Errorf("Waksman(%d) = %d, %d", k, got, e)
		}
	}
}

func TestSettingsRefused(t *testing.T) {
	for k := 1; k <= 3; k++ {
		for size := range 60 {
			if size != numbers(k) {
				refusedSettings(t, k, strings.Repeat("1", size), api.ErrForm)
			}
		}
		for at := range numbers(k) {
			for letter := range 256 {
				if letter == '0' || letter == '1' {
					continue
				}
				s := []byte(strings.Repeat("0", numbers(k)))
				s[at] = byte(letter)
				refusedSettings(t, k, string(s), api.ErrForm)
			}
		}
	}
	for _, s := range []string{"é", "éé", "ééé", "00éé", "0é000"} {
		refusedSettings(t, 2, s, api.ErrForm)
	}
}

// Too many edges are refused before sides and vertices that are out of range.
func TestEdgesRefused(t *testing.T) {
	for _, size := range []int{13, 14, 5000} {
		for _, side := range []int{math.MinInt, -1, 0, 1, 6, 7, math.MaxInt} {
			refusedEdges(t, side, 2, make([]api.Pair, size), api.ErrLong)
			refusedEdges(t, 2, side, slices.Repeat(pairs(-1, 9), size), api.ErrLong)
		}
	}
	for _, side := range probe.Outside(1, 6) {
		for _, edges := range [][]api.Pair{nil, pairs(0, 0), pairs(6, 6), pairs(-1, 0)} {
			refusedEdges(t, side, 3, edges, api.ErrArg)
			refusedEdges(t, 3, side, edges, api.ErrArg)
			refusedEdges(t, side, side, edges, api.ErrArg)
		}
	}
	for side := 1; side <= 6; side++ {
		for _, x := range probe.Outside(0, side-1) {
			refusedEdges(t, side, 6, pairs(x, 0), api.ErrArg)
			refusedEdges(t, 6, side, pairs(0, x), api.ErrArg)
			refusedEdges(t, side, 6, pairs(0, 5, x, 0, 0, 0), api.ErrArg)
			refusedEdges(t, 6, side, append(make([]api.Pair, 11), api.Pair{A: 5, B: x}), api.ErrArg)
		}
	}
}

// R4: nil and an empty slice are the same list of requests, or of edges.
func TestEmptyLists(t *testing.T) {
	for _, list := range [][]api.Pair{nil, {}} {
		if got, e := patch.Serve(2, 2, 2, list); len(got) != 0 || e != api.OK {
			t.Errorf("Serve of nothing = %v, %d", got, e)
		}
		if got, e := patch.Colors(6, 1, list); len(got) != 0 || e != api.OK {
			t.Errorf("Colors of nothing = %v, %d", got, e)
		}
		refusedRequests(t, 2, 2, 0, list, api.ErrArg)
		refusedEdges(t, 0, 1, list, api.ErrArg)
	}
	for _, none := range [][]int{nil, {}} {
		refusedRoutes(t, 1, 1, 1, none, none, api.ErrForm)
		refusedPerm(t, 1, none, api.ErrForm)
		if ok, e := patch.Valid(1, 1, 1, []int{0}, none); ok || e != api.ErrForm {
			t.Errorf("Valid without a routing = %t, %d", ok, e)
		}
	}
}

// R1: the functions end, and do not panic, for whatever numbers there are.
func TestStrangeArguments(t *testing.T) {
	random := rand.New(rand.NewSource(67))
	pool := []int{math.MinInt, math.MinInt32, -2, -1, 0, 0, 0, 1, 1, 2, 2, 3, 4, 6, 12, 13, math.MaxInt32, math.MaxInt}
	some := func() int { return pool[random.Intn(len(pool))] }
	list := func() []int {
		all := make([]int, random.Intn(14))
		for i := range all {
			all[i] = some()
		}
		return all
	}
	for range 200000 {
		n, r, m := some(), some(), some()
		perm, routing, edges := list(), list(), make([]api.Pair, random.Intn(14))
		if random.Intn(2) == 0 {
			perm = random.Perm(1 + random.Intn(12))
		}
		for i := range edges {
			edges[i] = api.Pair{A: some(), B: some()}
		}
		patch.Valid(n, r, m, perm, routing)
		patch.Route(n, r, m, perm)
		patch.Serve(n, r, m, edges)
		patch.Strict(n, r, m)
		patch.Apply(n, settings(randomNumbers(random, random.Intn(30), 2)))
		patch.Set(n, perm)
		patch.Ways(n, perm)
		patch.Waksman(n)
		patch.Omega(n, perm)
		patch.Colors(n, r, edges)
	}
}

func fromBool(ok bool) []int {
	if ok {
		return []int{1}
	}
	return []int{0}
}

func fromString(s string) []int {
	var list []int
	for _, letter := range []byte(s) {
		list = append(list, int(letter))
	}
	return list
}

// ofPerms are calls with a permutation of four numbers, each with its result as a list.
func ofPerms() map[string]func(perm []int) []int {
	return map[string]func(perm []int) []int{
		"Valid": func(p []int) []int { ok, _ := patch.Valid(2, 2, 2, p, []int{0, 1, 0, 1}); return fromBool(ok) },
		"Route": func(p []int) []int { l, _ := patch.Route(2, 2, 3, p); return l },
		"Apply": func(p []int) []int { l, _ := patch.Apply(2, settings([]int{p[0] % 2, 1, 0, 1, 1, 0})); return l },
		"Set":   func(p []int) []int { s, _ := patch.Set(2, p); return fromString(s) },
		"Ways":  func(p []int) []int { n, _ := patch.Ways(2, p); return []int{n} },
		"Omega": func(p []int) []int { ok, _ := patch.Omega(2, p); return fromBool(ok) },
	}
}

// R5 and R6: arguments stay as they are, results are new memory, and the same
// arguments have the same result, whatever their capacity.
func TestArgumentsAndResults(t *testing.T) {
	for name, call := range ofPerms() {
		for perm := range probe.Perms(4) {
			if wrong := probe.Memory(perm, 2, call); wrong != "" {
				t.Errorf("%s(%v) %s", name, perm, wrong)
			}
		}
	}
	for _, routing := range [][]int{{0, 1, 0, 1}, {0, 1, 1, 0}} {
		call := func(routing []int) []int {
			ok, _ := patch.Valid(2, 2, 2, []int{2, 0, 1, 3}, routing)
			return fromBool(ok)
		}
		if wrong := probe.Memory(routing, 1, call); wrong != "" {
			t.Errorf("Valid of %v %s", routing, wrong)
		}
	}
	requests := pairs(2, 0, 3, 1, 2, -1, 0, 2, 1, 0, 1, 2, 1, -1)
	serve := func(list []api.Pair) []int { l, _ := patch.Serve(2, 2, 2, list); return l }
	if wrong := probe.Memory(requests, api.Pair{A: 1, B: -1}, serve); wrong != "" {
		t.Errorf("Serve %s", wrong)
	}
	colors := func(list []api.Pair) []int { l, _ := patch.Colors(3, 3, list); return l }
	if wrong := probe.Memory(pairs(0, 2, 1, 1, 0, 1, 2, 2, 1, 2, 2, 0), api.Pair{A: 2}, colors); wrong != "" {
		t.Errorf("Colors %s", wrong)
	}
}

// R6: calls in between, also refused ones, change nothing.
func TestCallsDoNotMatterToEachOther(t *testing.T) {
	requests := pairs(2, 0, 3, 1, 0, 2)
	want := map[string][]int{}
	for name, call := range ofPerms() {
		want[name] = call([]int{2, 0, 1, 3})
	}
	for perm := range probe.Perms(4) {
		for name, call := range ofPerms() {
			call(perm)
			call([]int{1, 1, 1, 1})
			patch.Colors(2, 2, pairs(perm[0]%2, 1, 0, perm[1]%2))
			if got := call([]int{2, 0, 1, 3}); !slices.Equal(got, want[name]) {
				t.Errorf("%s = %v, then %v", name, want[name], got)
			}
			// Each list of requests finds a network without connections.
			if got := checkServe(t, 2, 2, 2, requests); !slices.Equal(got, []int{0, 1, 0}) {
				t.Errorf("Serve(%v) = %v", requests, got)
			}
		}
	}
}
