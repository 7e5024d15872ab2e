package patch_test

import (
	"iter"
	"math/rand"
	"slices"
	"strconv"
	"strings"
	"testing"

	"bellpull/api"
	"bellpull/patch"
	"bellpull/probe"
)

// The references below follow the definitions of the chapter word by word, and
// share no code with the package.

// shapes yields n and r of all Clos networks with a number of inputs.
func shapes(inputs int) iter.Seq2[int, int] {
	return func(yield func(n, r int) bool) {
		for n := 1; n <= inputs; n++ {
			if inputs%n == 0 && !yield(n, inputs/n) {
				return
			}
		}
	}
}

// pairs makes edges, or requests, of their numbers.
func pairs(numbers ...int) []api.Pair {
	var list []api.Pair
	for i := 0; i < len(numbers); i += 2 {
		list = append(list, api.Pair{A: numbers[i], B: numbers[i+1]})
	}
	return list
}

func randomPairs(random *rand.Rand, size, a, b int) []api.Pair {
	list := make([]api.Pair, size)
	for i := range list {
		list[i] = api.Pair{A: random.Intn(a), B: random.Intn(b)}
	}
	return list
}

func randomNumbers(random *rand.Rand, size, limit int) []int {
	list := make([]int, size)
	for i := range list {
		list[i] = random.Intn(limit)
	}
	return list
}

// isValid is Valid by its definition.
func isValid(n int, perm, routing []int) bool {
	for one := range perm {
		for other := range one {
			if routing[one] != routing[other] {
				continue
			}
			if one/n == other/n || perm[one]/n == perm[other]/n {
				return false
			}
		}
	}
	return true
}

// leastRouting looks at all lists of middle switches.
func leastRouting(n, m int, perm []int) []int {
	for routing := range probe.Lists(len(perm), 0, m-1) {
		if isValid(n, perm, routing) {
			return routing
		}
	}
	return nil
}

// links is the multigraph of F7.
func links(n int, perm []int) []api.Pair {
	var edges []api.Pair
	for input, output := range perm {
		edges = append(edges, api.Pair{A: input / n, B: output / n})
	}
	return edges
}

// isProper reports whether a slice is an edge colouring.
func isProper(edges []api.Pair, colors []int) bool {
	for i, x := range edges {
		for j, y := range edges[:i] {
			if (x.A == y.A || x.B == y.B) && colors[i] == colors[j] {
				return false
			}
		}
	}
	return !slices.ContainsFunc(colors, func(color int) bool { return color < 0 })
}

// leastColors looks at all colourings with numbers below a limit.
func leastColors(edges []api.Pair, limit int) []int {
	for colors := range probe.Lists(len(edges), 0, limit-1) {
		if isProper(edges, colors) {
			return colors
		}
	}
	return nil
}

// leastByCompletion fixes one number after the other as the least one with
// which the others can be completed, for graphs with too many colourings.
func leastByCompletion(edges []api.Pair, limit int) []int {
	colors := slices.Repeat([]int{-1}, len(edges))
	for i := range colors {
		for color := range limit {
			colors[i] = color
			if slices.Contains(free(edges, colors, i, limit), color) && completable(edges, slices.Clone(colors), limit) {
				break
			}
			colors[i] = -1
		}
	}
	return colors
}

// completable always goes on with the edge that has the fewest numbers left.
func completable(edges []api.Pair, colors []int, limit int) bool {
	next, left := -1, []int(nil)
	for i, color := range colors {
		if color < 0 {
			if all := free(edges, colors, i, limit); next < 0 || len(all) < len(left) {
				next, left = i, all
			}
		}
	}
	if next < 0 {
		return true
	}
	for _, color := range left {
		colors[next] = color
		if completable(edges, colors, limit) {
			return true
		}
	}
	colors[next] = -1
	return false
}

// free are the numbers of no other edge with a common vertex.
func free(edges []api.Pair, colors []int, at, limit int) []int {
	used := make([]bool, limit)
	for i, edge := range edges {
		if i != at && colors[i] >= 0 && (edge.A == edges[at].A || edge.B == edges[at].B) {
			used[colors[i]] = true
		}
	}
	var all []int
	for color, is := range used {
		if !is {
			all = append(all, color)
		}
	}
	return all
}

// greatest is the greatest degree.
func greatest(edges []api.Pair) int {
	degrees, most := map[string]int{}, 0
	for _, edge := range edges {
		for _, vertex := range []string{"a" + strconv.Itoa(edge.A), "b" + strconv.Itoa(edge.B)} {
			degrees[vertex]++
			most = max(most, degrees[vertex])
		}
	}
	return most
}

type link struct{ output, middle int }

// served is Serve by its definition; the connections are kept by their inputs.
func served(n, m int, requests []api.Pair) []int {
	connected := map[int]link{}
	var results []int
	for _, request := range requests {
		own, is := connected[request.A]
		switch {
		case request.B == -1 && is:
			delete(connected, request.A)
			results = append(results, own.middle)
		case request.B == -1 || is || hasOutput(connected, request.B):
			results = append(results, -2)
		default:
			middle := leastMiddle(n, connected, request)
			if middle >= m {
				middle = -1
			} else {
				connected[request.A] = link{request.B, middle}
			}
			results = append(results, middle)
		}
	}
	return results
}

func hasOutput(connected map[int]link, output int) bool {
	for _, l := range connected {
		if l.output == output {
			return true
		}
	}
	return false
}

func leastMiddle(n int, connected map[int]link, request api.Pair) int {
	taken := map[int]bool{}
	for input, l := range connected {
		if input/n == request.A/n || l.output/n == request.B/n {
			taken[l.middle] = true
		}
	}
	middle := 0
	for taken[middle] {
		middle++
	}
	return middle
}

// traced follows one message through a Beneš network.
func traced(k int, settings string, input int) int {
	through := func(setting byte, from int) int {
		if setting == '1' {
			return 1 - from
		}
		return from
	}
	if k == 1 {
		return through(settings[0], input)
	}
	column := 1 << (k - 1)
	inside := settings[column : len(settings)-column]
	networks := []string{inside[:len(inside)/2], inside[len(inside)/2:]}
	which := through(settings[input/2], input%2)
	last := traced(k-1, networks[which], input/2)
	return last*2 + through(settings[len(settings)-column+last], which)
}

// bits are the binary digits of a number, k of them.
func bits(k, number int) string {
	digits := strconv.FormatInt(int64(number), 2)
	return strings.Repeat("0", k-len(digits)) + digits
}

// passes is Omega by its definition.
func passes(k int, perm []int) bool {
	for j := 1; j <= k; j++ {
		lines := map[string]bool{}
		for s, t := range perm {
			lines[bits(k, s)[j:]+bits(k, t)[:j]] = true
		}
		if len(lines) < len(perm) {
			return false
		}
	}
	return true
}

// numbers is how many switches a Beneš network has: the first column, two inner
// networks, and the last column.
func numbers(k int) int {
	if k == 1 {
		return 1
	}
	return 1<<(k-1) + 2*numbers(k-1) + 1<<(k-1)
}

// The following return what a function does for arguments that it accepts.

func route(t *testing.T, n, r, m int, perm []int) []int {
	t.Helper()
	routing, e := patch.Route(n, r, m, perm)
	if e != api.OK {
		t.Fatalf("Route(%d, %d, %d, %v): %d", n, r, m, perm, e)
	}
	return routing
}

func valid(t *testing.T, n, r, m int, perm, routing []int) bool {
	t.Helper()
	ok, e := patch.Valid(n, r, m, perm, routing)
	if e != api.OK {
		t.Fatalf("Valid(%d, %d, %d, %v, %v): %d", n, r, m, perm, routing, e)
	}
	return ok
}

func strict(t *testing.T, n, r, m int) bool {
	t.Helper()
	ok, e := patch.Strict(n, r, m)
	if e != api.OK {
		t.Fatalf("Strict(%d, %d, %d): %d", n, r, m, e)
	}
	return ok
}

func apply(t *testing.T, k int, settings string) []int {
	t.Helper()
	perm, e := patch.Apply(k, settings)
	if e != api.OK {
		t.Fatalf("Apply(%d, %q): %d", k, settings, e)
	}
	return perm
}

func colored(t *testing.T, a, b int, edges []api.Pair) []int {
	t.Helper()
	colors, e := patch.Colors(a, b, edges)
	if e != api.OK {
		t.Fatalf("Colors(%d, %d, %v): %d", a, b, edges, e)
	}
	return colors
}

// checkServe compares Serve with its definition, and checks F8.
func checkServe(t *testing.T, n, r, m int, requests []api.Pair) []int {
	t.Helper()
	got, e := patch.Serve(n, r, m, requests)
	if want := served(n, m, requests); e != api.OK || !slices.Equal(got, want) {
		t.Fatalf("Serve(%d, %d, %d, %v) = %v, %d, want %v", n, r, m, requests, got, e, want)
	}
	kept := map[int]int{}
	for i, request := range requests {
		middle, is := kept[request.A]
		switch {
		case request.B == -1 && is && got[i] != middle:
			t.Fatalf("Serve(%d, %d, %d, %v) = %v gives back another middle switch at %d", n, r, m, requests, got, i)
		case request.B == -1:
			delete(kept, request.A)
		case got[i] >= 0:
			kept[request.A] = got[i]
		}
	}
	return got
}
