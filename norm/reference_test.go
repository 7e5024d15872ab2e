package norm_test

import (
	"math/rand"
	"testing"

	"bellpull/api"
	"bellpull/norm"
	"bellpull/probe"
)

// The references below follow the definitions of the chapter word by word, and
// share no code with the package.

// quat makes a quaternion of its coordinates.
func quat(x []int) api.Quat { return api.Quat{A: x[0], B: x[1], C: x[2], D: x[3]} }

// coordinates are those of a quaternion.
func coordinates(q api.Quat) []int { return []int{q.A, q.B, q.C, q.D} }

// isIntegral reports whether the coordinates are all even, or all odd.
func isIntegral(x []int) bool {
	odd := 0
	for _, c := range x {
		if c%2 != 0 {
			odd++
		}
	}
	return odd == 0 || odd == 4
}

// less compares two quaternions lexicographically.
func less(p, q api.Quat) bool {
	x, y := coordinates(p), coordinates(q)
	for i := range x {
		if x[i] != y[i] {
			return x[i] < y[i]
		}
	}
	return false
}

// multiply adds the products of the units 1, i, j and k: basis says which one
// the product of two is, and the sign of it.
func multiply(p, q api.Quat) api.Quat {
	basis := [4][4]struct{ sign, at int }{
		{{1, 0}, {1, 1}, {1, 2}, {1, 3}},
		{{1, 1}, {-1, 0}, {1, 3}, {-1, 2}},
		{{1, 2}, {-1, 3}, {-1, 0}, {1, 1}},
		{{1, 3}, {1, 2}, {-1, 1}, {-1, 0}},
	}
	sums := make([]int, 4)
	for i, x := range coordinates(p) {
		for j, y := range coordinates(q) {
			sums[basis[i][j].at] += basis[i][j].sign * x * y
		}
	}
	for i := range sums {
		sums[i] /= 2
	}
	return quat(sums)
}

// conjugate changes three signs.
func conjugate(q api.Quat) api.Quat { return api.Quat{A: q.A, B: -q.B, C: -q.C, D: -q.D} }

// normOf is the fourth of the sum of the squares.
func normOf(q api.Quat) int {
	sum := 0
	for _, c := range coordinates(q) {
		sum += c * c
	}
	return sum / 4
}

// add adds two quaternions.
func add(p, q api.Quat) api.Quat {
	return api.Quat{A: p.A + q.A, B: p.B + q.B, C: p.C + q.C, D: p.D + q.D}
}

// floor rounds a/b down; b is above 0.
func floor(a, b int) int {
	down := a / b
	if down*b > a {
		down--
	}
	return down
}

// quotientOf tries all quaternions around the exact quotient in lexicographic order.
func quotientOf(x, y api.Quat) api.Quat {
	n := normOf(y)
	scaled := coordinates(multiply(x, conjugate(y)))
	best, least := api.Quat{}, -1
	for steps := range probe.Lists(4, -2, 2) {
		q, gap := make([]int, 4), 0
		for i := range q {
			q[i] = floor(scaled[i], n) + steps[i]
			gap += (scaled[i] - n*q[i]) * (scaled[i] - n*q[i])
		}
		if isIntegral(q) && (least < 0 || gap < least) {
			best, least = quat(q), gap
		}
	}
	return best
}

// divides reports whether x is a product a·d of an integral a.
func divides(d, x api.Quat) bool {
	n := normOf(d)
	a := coordinates(multiply(x, conjugate(d)))
	for i := range a {
		if a[i]%n != 0 {
			return false
		}
		a[i] /= n
	}
	return isIntegral(a)
}

// quatsTo are the integral quaternions with coordinates from -high to high in
// lexicographic order.
func quatsTo(high int) []api.Quat {
	var all []api.Quat
	for x := range probe.Lists(4, -high, high) {
		if isIntegral(x) {
			all = append(all, quat(x))
		}
	}
	return all
}

// byNorm are all integral quaternions of the norms up to one, each list in
// lexicographic order.
func byNorm(highest int) [][]api.Quat {
	root := 0
	for (root+1)*(root+1) <= 4*highest {
		root++
	}
	lists := make([][]api.Quat, highest+1)
	for _, q := range quatsTo(root) {
		if n := normOf(q); n <= highest {
			lists[n] = append(lists[n], q)
		}
	}
	return lists
}

// gcdOf tries all quaternions with the greatest norm first, and of the same
// norm the lexicographically greatest one.
func gcdOf(lists [][]api.Quat, x, y api.Quat) api.Quat {
	for n := len(lists) - 1; n > 0; n-- {
		for i := len(lists[n]) - 1; i >= 0; i-- {
			if d := lists[n][i]; divides(d, x) && divides(d, y) {
				return d
			}
		}
	}
	return api.Quat{}
}

// randomQuat is an integral quaternion with coordinates from -high to high.
func randomQuat(random *rand.Rand, high int) api.Quat {
	odd := random.Intn(2)
	x := make([]int, 4)
	for i := range x {
		x[i] = 2*random.Intn((high-odd)/2+1) + odd
		if random.Intn(2) == 0 {
			x[i] = -x[i]
		}
	}
	return quat(x)
}

// corners are the integral quaternions with the greatest coordinates there may
// be, and some with large and small ones.
func corners() []api.Quat {
	var all []api.Quat
	for x := range probe.Lists(4, -1, 1) {
		even, odd := make([]int, 4), make([]int, 4)
		for i := range x {
			even[i], odd[i] = api.MaxPart*x[i], (api.MaxPart-1)*x[i]
			if x[i] == 0 {
				odd[i] = 1
			}
		}
		all = append(all, quat(even), quat(odd))
	}
	return all
}

// primesTo reports of each number up to one whether it is a prime.
func primesTo(highest int) []bool {
	prime := make([]bool, highest+1)
	for n := range prime {
		prime[n] = n >= 2
	}
	for n := range prime {
		for multiple := 2 * n; prime[n] && multiple <= highest; multiple += n {
			prime[multiple] = false
		}
	}
	return prime
}

// squaresOf are the lexicographically greatest sums of k squares for all
// numbers up to MaxSquare: all slices are tried, the greatest ones last.
func squaresOf(k int) [][]int {
	greatest := make([][]int, api.MaxSquare+1)
	var extend func(list []int, sum int)
	extend = func(list []int, sum int) {
		if len(list) == k {
			greatest[sum] = append([]int(nil), list...)
			return
		}
		for x := 0; sum+x*x <= api.MaxSquare; x++ {
			if len(list) == 0 || x <= list[len(list)-1] {
				extend(append(list, x), sum+x*x)
			}
		}
	}
	extend(nil, 0)
	return greatest
}

// splits are, for all numbers up to one, the lexicographically greatest
// quaternions of that norm with even coordinates of 0 or more.
func splits(highest int) []api.Quat {
	greatest := make([]api.Quat, highest+1)
	for a := 0; a*a <= highest; a++ {
		for b := 0; a*a+b*b <= highest; b++ {
			for c := 0; a*a+b*b+c*c <= highest; c++ {
				for d := 0; a*a+b*b+c*c+d*d <= highest; d++ {
					greatest[a*a+b*b+c*c+d*d] = api.Quat{A: 2 * a, B: 2 * b, C: 2 * c, D: 2 * d}
				}
			}
		}
	}
	return greatest
}

// pairsOf counts, for all numbers up to one, the pairs of integers whose
// squares sum to it; of odd integers only, if so asked.
func pairsOf(highest int, odd bool) []int {
	count := make([]int, highest+1)
	for a := -highest; a <= highest; a++ {
		for b := -highest; a*a <= highest && b <= highest; b++ {
			if a*a+b*b <= highest && (!odd || a%2 != 0 && b%2 != 0) {
				count[a*a+b*b]++
			}
		}
	}
	return count
}

// quadruples counts those that consist of two pairs.
func quadruples(pairs []int, n int) int {
	count := 0
	for i := range n + 1 {
		count += pairs[i] * pairs[n-i]
	}
	return count
}

// product is the one that the package computes.
func product(t *testing.T, x, y api.Quat) api.Quat {
	t.Helper()
	q, e := norm.Mul(x, y)
	if e != api.OK {
		t.Fatalf("Mul(%v, %v): %d", x, y, e)
	}
	return q
}

// gcd is the one that the package computes.
func gcd(t *testing.T, x, y api.Quat) api.Quat {
	t.Helper()
	d, e := norm.Gcd(x, y)
	if e != api.OK {
		t.Fatalf("Gcd(%v, %v): %d", x, y, e)
	}
	return d
}

// squares is the result of Four or Three, which must not fail.
func squares(t *testing.T, call func(n int) ([]int, api.Errno), n int) []int {
	t.Helper()
	list, e := call(n)
	if e != api.OK {
		t.Fatalf("%d as squares: %d", n, e)
	}
	return list
}
