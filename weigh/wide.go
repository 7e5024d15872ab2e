package weigh

import (
	"strconv"
	"strings"
)

// limb is how many numbers a part of a wide number distinguishes.
const limb = 1_000_000_000

// wide is a number of up to 72 digits, nine in each part, the lowest first. It
// has room for the products of MaxWeights weights (up to 61 digits) and for the
// sum of as many of them.
type wide [8]int

func (w wide) plus(other wide) wide {
	carry := 0
	for i := range w {
		carry += w[i] + other[i]
		w[i] = carry % limb
		carry /= limb
	}
	return w
}

func (w wide) times(factor int) wide {
	carry := 0
	for i := range w {
		carry += w[i] * factor
		w[i] = carry % limb
		carry /= limb
	}
	return w
}

// divided returns the quotient and the remainder.
func (w wide) divided(by int) (wide, int) {
	rest := 0
	for i := len(w) - 1; i >= 0; i-- {
		rest = rest*limb + w[i]
		w[i] = rest / by
		rest %= by
	}
	return w, rest
}

// text returns a number above 0 in decimal.
func (w wide) text() string {
	text := ""
	for _, part := range w {
		text = strconv.Itoa(limb + part)[1:] + text // all nine digits, with zeros in front
	}
	return strings.TrimLeft(text, "0")
}

// reciprocals returns the numerator and the denominator of the sum of the
// reciprocals of weights, in lowest terms.
func reciprocals(weights []int) (wide, wide) {
	product := wide{1}
	for _, weight := range weights {
		product = product.times(weight)
	}
	var numerator wide
	for _, weight := range weights {
		share, _ := product.divided(weight)
		numerator = numerator.plus(share)
	}
	// What is left of a weight has no divisor in common with the numerator, so
	// neither has the product of all that is left.
	denominator := wide{1}
	for _, weight := range weights {
		_, rest := numerator.divided(weight)
		common := commonDivisor(weight, rest)
		numerator, _ = numerator.divided(common)
		denominator = denominator.times(weight / common)
	}
	return numerator, denominator
}

func commonDivisor(a, b int) int {
	for b > 0 {
		a, b = b, a%b
	}
	return a
}
