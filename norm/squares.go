package norm

import "slices"

// greatestSquares returns the lexicographically greatest sum of k squares for
// n of numbers up to a greatest one, and whether there is any.
func greatestSquares(k, n, most int) ([]int, bool) {
	if k == 0 {
		return nil, n == 0
	}
	// As no number is greater than the first one, k of its squares reach n.
	for first := min(most, squareRoot(n)); first >= 0 && k*first*first >= n; first-- {
		if rest, ok := greatestSquares(k-1, n-first*first, first); ok {
			return slices.Insert(rest, 0, first), true
		}
	}
	return nil, false
}

// squareRoot returns the greatest number whose square is at most n.
func squareRoot(n int) int {
	root := 0
	for (root+1)*(root+1) <= n {
		root++
	}
	return root
}

// sumOfDivisors returns the sum of the divisors of n that are not multiples of
// a number. By Jacobi's theorem it counts the sums of four squares, and by
// Hurwitz's the integral quaternions of a norm.
func sumOfDivisors(n, multiple int) int {
	sum := 0
	for divisor := 1; divisor <= n; divisor++ {
		if n%divisor == 0 && divisor%multiple != 0 {
			sum += divisor
		}
	}
	return sum
}

func isPrime(n int) bool {
	for divisor := 2; divisor*divisor <= n; divisor++ {
		if n%divisor == 0 {
			return false
		}
	}
	return n >= 2
}
