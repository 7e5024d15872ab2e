package norm

import (
	"slices"

	"bellpull/api"
)

// parts are the coordinates of a quaternion, doubled, so that those of an
// integral one are integers.
type parts [4]int

func partsOf(q api.Quat) parts { return parts{q.A, q.B, q.C, q.D} }

func (p parts) quat() api.Quat { return api.Quat{A: p[0], B: p[1], C: p[2], D: p[3]} }

// integral reports whether the parts are all even or all odd.
func (p parts) integral() bool {
	for _, part := range p {
		if part&1 != p[0]&1 {
			return false
		}
	}
	return true
}

func (p parts) conjugate() parts { return parts{p[0], -p[1], -p[2], -p[3]} }

func (p parts) norm() int { return (p[0]*p[0] + p[1]*p[1] + p[2]*p[2] + p[3]*p[3]) / 4 }

func (p parts) minus(q parts) parts {
	return parts{p[0] - q[0], p[1] - q[1], p[2] - q[2], p[3] - q[3]}
}

// times returns a product of two. As both are integral, so is the product, and
// halving the sums leaves no remainder.
func (p parts) times(q parts) parts {
	return parts{
		(p[0]*q[0] - p[1]*q[1] - p[2]*q[2] - p[3]*q[3]) / 2,
		(p[0]*q[1] + p[1]*q[0] + p[2]*q[3] - p[3]*q[2]) / 2,
		(p[0]*q[2] - p[1]*q[3] + p[2]*q[0] + p[3]*q[1]) / 2,
		(p[0]*q[3] + p[1]*q[2] - p[2]*q[1] + p[3]*q[0]) / 2,
	}
}

// product returns the product of any number of factors, which is 1 without any.
func product(factors ...parts) parts {
	result := parts{2}
	for _, factor := range factors {
		result = result.times(factor)
	}
	return result
}

// compare compares lexicographically.
func compare(p, q parts) int { return slices.Compare(p[:], q[:]) }

// units returns the units in lexicographic order. No part of them is beyond 2,
// as the norm is 1.
func units() []parts {
	var result []parts
	for i := range 5 * 5 * 5 * 5 {
		unit := parts{i/125 - 2, i/25%5 - 2, i/5%5 - 2, i%5 - 2}
		if unit.integral() && product(unit, unit.conjugate()) == product() {
			result = append(result, unit)
		}
	}
	return result
}

// divided returns the quotient and the remainder of x by y, which is not 0.
func divided(x, y parts) (parts, parts) {
	n := y.norm()
	scaled := product(x, y.conjugate())
	quotient, gap := nearest(scaled, n, 0)
	odd, oddGap := nearest(scaled, n, 1)
	if oddGap < gap || oddGap == gap && compare(odd, quotient) < 0 {
		quotient = odd
	}
	return quotient, x.minus(product(quotient, y))
}

// nearest returns the quaternion nearest to scaled/n among those whose parts
// are all even, or all odd, and a number that grows with its distance. Each
// part can be chosen alone; the lesser one of two that are as near makes the
// lexicographically least of all that are as near.
func nearest(scaled parts, n, odd int) (parts, int) {
	var result parts
	gap := 0
	for i, part := range scaled {
		result[i] = 2*rounded(part-odd*n, 2*n) + odd
		miss := part - n*result[i]
		gap += miss * miss
	}
	return result, gap
}

// rounded returns the integer nearest to a/b, the lesser one of two; b is even
// and above 0.
func rounded(a, b int) int {
	a -= b / 2
	// The division cuts towards 0, so it rounds up already below 0.
	result := a / b
	if a%b > 0 {
		result++
	}
	return result
}

// commonDivisor returns a greatest common right divisor by Euclid's algorithm,
// and 0 only if both are 0. What divides x and y from the right divides
// x - q·y, and the other way round.
func commonDivisor(x, y parts) parts {
	for y != (parts{}) {
		_, remainder := divided(x, y)
		x, y = y, remainder
	}
	return x
}

// greatestMultiple returns the lexicographically greatest product of a unit and p.
func greatestMultiple(p parts) parts {
	greatest := p
	for _, unit := range units() {
		if multiple := product(unit, p); compare(multiple, greatest) > 0 {
			greatest = multiple
		}
	}
	return greatest
}
