// Package paint is layer 1, colourings without patterns: see shared/doc/01-paint.md.
package paint

import "bellpull/api"

// maxCounted is the most vertices whose colourings are counted.
const maxCounted = 5

// Clique returns the first clique of a colour.
func Clique(n int, colors []int, color, k int) ([]int, api.Errno) {
	if !within(n, 1, api.MaxDots) || !within(color, 0, 1) || !within(k, 1, api.MaxClique) {
		return nil, api.ErrArg
	}
	if len(colors) != n*(n-1)/2 || !painted(colors, 2) {
		return nil, api.ErrForm
	}
	return found(dots{n, colors}.grow(nil, n, color, k))
}

// Avoid returns the first colouring of pairs without cliques.
func Avoid(n, k, l int) ([]int, api.Errno) {
	if !within(n, 1, api.MaxDots) || !sizes(k, l) {
		return nil, api.ErrArg
	}
	return first(cliqueless(n, k, l))
}

// Sum returns the first sum of one colour.
func Sum(colors []int) ([]int, api.Errno) {
	if !within(len(colors), 1, api.MaxSum) || !painted(colors, api.MaxColors) {
		return nil, api.ErrForm
	}
	return found(sum(colors))
}

// Sumless returns the first colouring without a sum of one colour.
func Sumless(n, r int) ([]int, api.Errno) {
	if !within(n, 1, api.MaxSum) || !within(r, 1, api.MaxColors) {
		return nil, api.ErrArg
	}
	return first(colorings(n, r, lastSumless))
}

// Progression returns the first progression of one colour.
func Progression(colors []int, k int) ([]int, api.Errno) {
	if !within(k, 3, 4) {
		return nil, api.ErrArg
	}
	if !within(len(colors), 1, api.MaxSteps) || !painted(colors, api.MaxColors) {
		return nil, api.ErrForm
	}
	return found(progression(colors, k))
}

// Stepless returns the first colouring without a progression of one colour.
func Stepless(n, r, k int) ([]int, api.Errno) {
	if !within(n, 1, api.MaxSteps) || !within(r, 1, api.MaxColors) || !within(k, 3, 4) {
		return nil, api.ErrArg
	}
	stepless := func(begin []int) bool { return lastStepless(begin, k) }
	return first(colorings(n, r, stepless))
}

// Count returns the number of colourings of pairs without cliques.
func Count(n, k, l int) (int, api.Errno) {
	if !within(n, 1, maxCounted) || !sizes(k, l) {
		return 0, api.ErrArg
	}
	count := 0
	for range cliqueless(n, k, l) {
		count++
	}
	return count, api.OK
}

// found returns a pattern, of which nil stands for none.
func found(pattern []int) ([]int, api.Errno) {
	if pattern == nil {
		return nil, api.ErrNone
	}
	return pattern, api.OK
}

func within(x, low, high int) bool { return low <= x && x <= high }

// sizes reports whether cliques of k and of l vertices may be avoided.
func sizes(k, l int) bool {
	return within(k, 2, api.MaxClique) && within(l, 2, api.MaxClique)
}

// painted reports whether all colours are among the first r.
func painted(colors []int, r int) bool {
	for _, c := range colors {
		if !within(c, 0, r-1) {
			return false
		}
	}
	return true
}
