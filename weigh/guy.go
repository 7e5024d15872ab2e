package weigh

// terms returns Conway and Guy's sequence from u(0) to u(n).
func terms(n int) []int {
	u := []int{0, 1}
	for last := 1; last < n; last++ {
		u = append(u, 2*u[last]-u[last-nearestRoot(2*last)])
	}
	return u[:n+1]
}

// nearestRoot returns the integer nearest to the square root of x. As x is an
// integer, it is above the square of root + 1/2 just if it is above the
// integer part of that square.
func nearestRoot(x int) int {
	root := 0
	for x > root*root+root {
		root++
	}
	return root
}
