package paint

// same reports whether the numbers, from 1 on, all have one colour.
func same(colors []int, numbers ...int) bool {
	for _, x := range numbers {
		if colors[x-1] != colors[numbers[0]-1] {
			return false
		}
	}
	return true
}

// sum returns the lexicographically least sum of one colour, or nil.
func sum(colors []int) []int {
	n := len(colors)
	for x := 1; x <= n; x++ {
		for y := x; x+y <= n; y++ {
			if same(colors, x, y, x+y) {
				return []int{x, y}
			}
		}
	}
	return nil
}

// lastSumless reports whether the last number is no sum of one colour.
func lastSumless(colors []int) bool {
	last := len(colors)
	for x := 1; x <= last-x; x++ {
		if same(colors, x, last-x, last) {
			return false
		}
	}
	return true
}

func terms(a, d, k int) []int {
	list := make([]int, k)
	for i := range k {
		list[i] = a + i*d
	}
	return list
}

// progression returns the lexicographically least progression of k terms of
// one colour, or nil.
func progression(colors []int, k int) []int {
	n := len(colors)
	for a := 1; a <= n; a++ {
		for d := 1; a+(k-1)*d <= n; d++ {
			if same(colors, terms(a, d, k)...) {
				return []int{a, d}
			}
		}
	}
	return nil
}

// lastStepless reports whether no progression of k terms of one colour ends at
// the last number.
func lastStepless(colors []int, k int) bool {
	last := len(colors)
	for d := 1; (k-1)*d < last; d++ {
		if same(colors, terms(last-(k-1)*d, d, k)...) {
			return false
		}
	}
	return true
}
