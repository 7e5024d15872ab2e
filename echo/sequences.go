package echo

// kolakoski returns the first n terms of the sequence of runs of a and b that
// is the sequence of its own run lengths.
func kolakoski(a, b, n int) []int {
	// The last run may go beyond n by all its terms but one.
	terms := make([]int, 0, n+maxLetter)
	letter, other := a, b
	for run := 0; len(terms) < n; run++ {
		// A run that no term before it measures begins with its own length.
		length := letter
		if run < len(terms) {
			length = terms[run]
		}
		for range length {
			terms = append(terms, letter)
		}
		letter, other = other, letter
	}
	return terms[:n]
}

// golomb returns the first n terms of the sequence that never decreases and
// tells how often each number occurs in it.
func golomb(n int) []int {
	// Terms are counted from 1 on: the one at 0 only makes the formula simple.
	g := make([]int, 1, n+1)
	for i := 1; i <= n; i++ {
		term := 1
		if i > 1 {
			term += g[i-g[g[i-1]]]
		}
		g = append(g, term)
	}
	return g[1:]
}
