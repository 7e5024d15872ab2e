// Package probe holds what the tests of several layers share: arguments to try,
// and a check of what a call does with memory. The program itself uses none of it.
package probe

import (
	"iter"
	"math"
	"slices"
)

// Outside returns numbers that are not in the range from low to high, which
// must begin after -1000000 and end before 1000000.
func Outside(low, high int) []int {
	return []int{low - 1, high + 1, -1000000, 1000000, math.MinInt, math.MinInt + 1, math.MaxInt - 1, math.MaxInt, math.MinInt32, math.MaxInt32}
}

// Lists yields all lists of size numbers from low to high in lexicographic order.
func Lists(size, low, high int) iter.Seq[[]int] {
	return func(yield func([]int) bool) {
		list := slices.Repeat([]int{low}, size)
		for yield(slices.Clone(list)) {
			i := size - 1
			for i >= 0 && list[i] == high {
				list[i] = low
				i--
			}
			if i < 0 {
				return
			}
			list[i]++
		}
	}
}

// Perms yields all permutations of the numbers below size in lexicographic order.
func Perms(size int) iter.Seq[[]int] {
	var extend func(begin []int, yield func([]int) bool) bool
	extend = func(begin []int, yield func([]int) bool) bool {
		if len(begin) == size {
			return yield(slices.Clone(begin))
		}
		for x := range size {
			if !slices.Contains(begin, x) && !extend(append(begin, x), yield) {
				return false
			}
		}
		return true
	}
	return func(yield func([]int) bool) { extend(nil, yield) }
}

// Identity returns the first one of these permutations.
func Identity(size int) []int {
	perm := make([]int, size)
	for i := range perm {
		perm[i] = i
	}
	return perm
}

// BadPerms returns slices that are no permutations of size numbers.
func BadPerms(size int) [][]int {
	all := [][]int{Identity(size + 1), Identity(size)[1:], append(Identity(size), 0), Identity(5000)}
	if size > 1 {
		all = append(all, nil, []int{0}, slices.Repeat([]int{0}, size), slices.Repeat([]int{size - 1}, size))
	}
	for at := range size {
		for _, x := range Outside(0, size-1) {
			perm := Identity(size)
			perm[at] = x
			all = append(all, perm)
		}
		for other := range size {
			if other != at {
				perm := Identity(size)
				perm[at] = other
				all = append(all, perm)
			}
		}
	}
	return all
}

// spoiled is a number that no layer returns.
const spoiled = -987654321

// Memory makes a call twice and returns what is wrong with it, or nothing: if
// it changes the argument or keeps it, if the result shares memory with the
// argument or with what the function keeps, or if the second result differs
// although the argument differs only in its capacity. The argument is given
// with others behind its end, which also overwrite it between the calls.
func Memory[A comparable](argument []A, other A, call func([]A) []int) string {
	room := append(slices.Clone(argument), other, other, other)
	before := slices.Clone(room)
	one := call(room[:len(argument)])
	want := slices.Clone(one)
	if len(one) == 0 {
		return "returns nothing"
	}
	if !slices.Equal(room, before) {
		return "changes its argument"
	}
	for i := range room {
		room[i] = other
	}
	if !slices.Equal(one, want) {
		return "returns a part of its argument"
	}
	for i := range one {
		one[i] = spoiled
	}
	if !slices.Equal(call(slices.Clip(slices.Clone(argument))), want) {
		return "returns something else for the same argument"
	}
	return ""
}
