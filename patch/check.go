package patch

import (
	"slices"
	"strings"

	"bellpull/api"
)

func within(x, low, high int) bool { return low <= x && x <= high }

func isClos(n, r, m int) bool {
	// Each of n and r comes before their product, which may overflow.
	return within(n, 1, api.MaxWires) && within(r, 1, api.MaxWires) && n*r <= api.MaxWires && within(m, 1, maxMiddles)
}

func isPermutation(perm []int, size int) bool {
	if len(perm) != size {
		return false
	}
	for i, output := range perm {
		if !within(output, 0, size-1) || slices.Contains(perm[:i], output) {
			return false
		}
	}
	return true
}

func isRouting(routing []int, size, m int) bool {
	outside := func(middle int) bool { return !within(middle, 0, m-1) }
	return len(routing) == size && !slices.ContainsFunc(routing, outside)
}

func isRequest(request api.Pair, size int) bool {
	return within(request.A, 0, size-1) && (request.B == apart || within(request.B, 0, size-1))
}

func areSettings(settings string, k int) bool {
	return len(settings) == switchCount(k) && strings.Trim(settings, "01") == ""
}

func isMultigraph(a, b int, edges []api.Pair) bool {
	outside := func(edge api.Pair) bool { return !within(edge.A, 0, a-1) || !within(edge.B, 0, b-1) }
	return within(a, 1, maxSide) && within(b, 1, maxSide) && !slices.ContainsFunc(edges, outside)
}

// checkedPower returns what is wrong with a network of 2^k inputs, or with a
// permutation of them.
func checkedPower(k, greatest int, perm []int) api.Errno {
	switch {
	case !within(k, 1, greatest):
		return api.ErrArg
	case !isPermutation(perm, 1<<k):
		return api.ErrForm
	}
	return api.OK
}
