package paint_test

import (
	"math/bits"
	"slices"
	"testing"

	"bellpull/api"
)

// The references below follow the definitions of the chapter word by word, and
// share no code with the package.

// pairColors tells the colour of each pair a < b that a colouring has one for.
func pairColors(n int, colors []int) map[[2]int]int {
	table := map[[2]int]int{}
	for a := 0; a < n; a++ {
		for b := a + 1; b < n; b++ {
			if len(table) < len(colors) {
				table[[2]int{a, b}] = colors[len(table)]
			}
		}
	}
	return table
}

// leastClique looks at all sets of k vertices; nil stands for none.
func leastClique(n int, colors []int, color, k int) []int {
	table := pairColors(n, colors)
	var least []int
	for set := range uint(1) << n {
		if bits.OnesCount(set) != k {
			continue
		}
		var members []int
		for v := range n {
			if set>>v&1 == 1 {
				members = append(members, v)
			}
		}
		if isClique(table, members, color) && (least == nil || slices.Compare(members, least) < 0) {
			least = members
		}
	}
	return least
}

func isClique(table map[[2]int]int, members []int, color int) bool {
	for i, a := range members {
		for _, b := range members[i+1:] {
			if c, ok := table[[2]int{a, b}]; !ok || c != color {
				return false
			}
		}
	}
	return true
}

// cliqueMasks are the sets of pairs, as bits in their order, of the sets of k vertices.
func cliqueMasks(n, k int) []uint32 {
	bit := map[[2]int]int{}
	for a := 0; a < n; a++ {
		for b := a + 1; b < n; b++ {
			bit[[2]int{a, b}] = len(bit)
		}
	}
	var masks []uint32
	for set := range uint(1) << n {
		if bits.OnesCount(set) != k {
			continue
		}
		mask := uint32(0)
		for p, i := range bit {
			if set>>p[0]&1 == 1 && set>>p[1]&1 == 1 {
				mask |= 1 << i
			}
		}
		masks = append(masks, mask)
	}
	return masks
}

// hasClique returns a check whether the first colours of the pairs of n
// vertices have one of the cliques that Avoid avoids.
func hasClique(n, k, l int) func(colors []int) bool {
	masks := [2][]uint32{cliqueMasks(n, k), cliqueMasks(n, l)}
	return func(colors []int) bool {
		var of [2]uint32
		for i, c := range colors {
			of[c] |= 1 << i
		}
		for c := range 2 {
			for _, mask := range masks[c] {
				if of[c]&mask == mask {
					return true
				}
			}
		}
		return false
	}
}

func leastSum(colors []int) []int {
	n := len(colors)
	var least []int
	for y := n; y >= 1; y-- {
		for x := y; x >= 1; x-- {
			if x+y > n || colors[x-1] != colors[y-1] || colors[y-1] != colors[x+y-1] {
				continue
			}
			if s := []int{x, y}; least == nil || slices.Compare(s, least) < 0 {
				least = s
			}
		}
	}
	return least
}

func hasSum(colors []int) bool { return leastSum(colors) != nil }

func leastProgression(colors []int, k int) []int {
	n := len(colors)
	var least []int
	for d := n; d >= 1; d-- {
		for a := n; a >= 1; a-- {
			if !isProgression(colors, a, d, k) {
				continue
			}
			if p := []int{a, d}; least == nil || slices.Compare(p, least) < 0 {
				least = p
			}
		}
	}
	return least
}

func isProgression(colors []int, a, d, k int) bool {
	for i := 0; i < k; i++ {
		if a+i*d > len(colors) || colors[a+i*d-1] != colors[a-1] {
			return false
		}
	}
	return true
}

func hasProgression(k int) func(colors []int) bool {
	return func(colors []int) bool { return leastProgression(colors, k) != nil }
}

// leastWithout returns the least colouring without a pattern, or false. It
// leaves out continuations of what has a pattern already.
func leastWithout(size, r int, pattern func([]int) bool) ([]int, bool) {
	return continued([]int{}, size, r, pattern)
}

func continued(begin []int, size, r int, pattern func([]int) bool) ([]int, bool) {
	if pattern(begin) {
		return nil, false
	}
	if len(begin) == size {
		return begin, true
	}
	for c := range r {
		if all, ok := continued(append(slices.Clone(begin), c), size, r, pattern); ok {
			return all, true
		}
	}
	return nil, false
}

// check compares a result with the one that is wanted, nil standing for ErrNone.
func check(t *testing.T, call string, got []int, e api.Errno, want []int, ok bool) {
	t.Helper()
	if !ok && (e != api.ErrNone || len(got) != 0) {
		t.Fatalf("%s = %v, %d, want ErrNone", call, got, e)
	}
	if ok && (e != api.OK || !slices.Equal(got, want)) {
		t.Fatalf("%s = %v, %d, want %v", call, got, e, want)
	}
}

// refused checks that a call returned this error and otherwise nothing.
func refused(t *testing.T, call string, got []int, e, want api.Errno) {
	t.Helper()
	if e != want || len(got) != 0 {
		t.Errorf("%s = %v, %d, want the error %d", call, got, e, want)
	}
}

func repeated(color, size int) []int { return slices.Repeat([]int{color}, size) }
