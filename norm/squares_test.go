package norm_test

import (
	"slices"
	"testing"

	"bellpull/api"
	"bellpull/norm"
)

// Example 2 of the chapter, example 4 of the document, and numbers whose
// results were found by hand.
func TestSquaresOfTheDocument(t *testing.T) {
	fours := map[int][]int{0: {0, 0, 0, 0}, 1: {1, 0, 0, 0}, 7: {2, 1, 1, 1}, 8: {2, 2, 0, 0}, 15: {3, 2, 1, 1}, 18: {4, 1, 1, 0}, 10000: {100, 0, 0, 0}, 9999: {99, 14, 1, 1}}
	for n, want := range fours {
		if got := squares(t, norm.Four, n); !slices.Equal(got, want) {
			t.Errorf("Four(%d) = %v, want %v", n, got, want)
		}
	}
	threes := map[int][]int{0: {0, 0, 0}, 1: {1, 0, 0}, 3: {1, 1, 1}, 6: {2, 1, 1}, 9: {3, 0, 0}, 12: {2, 2, 2}, 27: {5, 1, 1}, 10000: {100, 0, 0}}
	for n, want := range threes {
		if got := squares(t, norm.Three, n); !slices.Equal(got, want) {
			t.Errorf("Three(%d) = %v, want %v", n, got, want)
		}
	}
	for _, n := range []int{7, 15, 23, 28, 60, 112, 9983} {
		if got, e := norm.Three(n); len(got) != 0 || e != api.ErrNone {
			t.Errorf("Three(%d) = %v, %d", n, got, e)
		}
	}
	counts := map[int]int{0: 1, 1: 8, 2: 24, 3: 32, 4: 24, 5: 48, 6: 96, 12: 96}
	for n, want := range counts {
		if got, e := norm.Count(n); got != want || e != api.OK {
			t.Errorf("Count(%d) = %d, %d, want %d", n, got, e, want)
		}
	}
	hurwitz := map[int]int{1: 24, 2: 24, 3: 96, 4: 24, 5: 144, 6: 96, 9: 312}
	for n, want := range hurwitz {
		if got, e := norm.Hurwitz(n); got != want || e != api.OK {
			t.Errorf("Hurwitz(%d) = %d, %d, want %d", n, got, e, want)
		}
	}
	split := map[int]api.Quat{2: {A: 2, B: 2}, 3: {A: 2, B: 2, C: 2}, 5: {A: 4, B: 2}, 7: {A: 4, B: 2, C: 2, D: 2}, 13: {A: 6, B: 4}, 23: {A: 6, B: 6, C: 4, D: 2}}
	for p, want := range split {
		if got, e := norm.Split(p); got != want || e != api.OK {
			t.Errorf("Split(%d) = %v, %d, want %v", p, got, e, want)
		}
	}
}

// sumsTo reports whether a list has k numbers of 0 or more, none less than the
// next one, whose squares sum to n.
func sumsTo(list []int, k, n int) bool {
	falling := len(list) == k && list[k-1] >= 0
	for i, x := range list {
		n -= x * x
		falling = falling && (i == 0 || x <= list[i-1])
	}
	return falling && n == 0
}

// D5, the first part, and Four by its definition, for all numbers.
func TestFour(t *testing.T) {
	greatest := squaresOf(4)
	for n := range api.MaxSquare + 1 {
		got := squares(t, norm.Four, n)
		if !sumsTo(got, 4, n) || !slices.Equal(got, greatest[n]) {
			t.Fatalf("Four(%d) = %v, want %v", n, got, greatest[n])
		}
	}
}

// D5, the second part, and Three by its definition, for all numbers.
func TestThree(t *testing.T) {
	greatest := squaresOf(3)
	for n := range api.MaxSquare + 1 {
		rest := n
		for rest > 0 && rest%4 == 0 {
			rest /= 4
		}
		got, e := norm.Three(n)
		if rest%8 == 7 {
			if len(got) != 0 || e != api.ErrNone {
				t.Fatalf("Three(%d) = %v, %d, but there is none", n, got, e)
			}
			continue
		}
		if e != api.OK || !sumsTo(got, 3, n) || !slices.Equal(got, greatest[n]) {
			t.Fatalf("Three(%d) = %v, %d, want %v", n, got, e, greatest[n])
		}
	}
}

// D6, the first part, and Count by its definition, for all numbers.
func TestCount(t *testing.T) {
	pairs := pairsOf(api.MaxSquare, false)
	for n := range api.MaxSquare + 1 {
		got, e := norm.Count(n)
		if got != quadruples(pairs, n) || e != api.OK {
			t.Fatalf("Count(%d) = %d, %d, want %d", n, got, e, quadruples(pairs, n))
		}
		sum := 0
		for d := 1; n <= 1000 && d <= n; d++ {
			if n%d == 0 && d%4 != 0 {
				sum += d
			}
		}
		if 1 <= n && n <= 1000 && got != 8*sum {
			t.Fatalf("Count(%d) = %d, want 8 times %d", n, got, sum)
		}
	}
}

// D6, the second part, and Hurwitz by its definition, for all numbers: the
// squares of the doubled coordinates sum to four times the norm.
func TestHurwitz(t *testing.T) {
	even, odd := pairsOf(api.MaxSquare, false), pairsOf(4*api.MaxSquare, true)
	for n := 1; n <= api.MaxSquare; n++ {
		want := quadruples(even, n) + quadruples(odd, 4*n)
		if got, e := norm.Hurwitz(n); got != want || e != api.OK {
			t.Fatalf("Hurwitz(%d) = %d, %d, want %d", n, got, e, want)
		}
		sum := 0
		for d := 1; n <= 1000 && d <= n; d += 2 {
			if n%d == 0 {
				sum += d
			}
		}
		if n <= 1000 && want != 24*sum {
			t.Fatalf("Hurwitz(%d) = %d, want 24 times %d", n, want, sum)
		}
	}
	for n, all := range byNorm(30) {
		if got, _ := norm.Hurwitz(n); n > 0 && got != len(all) {
			t.Fatalf("Hurwitz(%d) = %d, but there are %d", n, got, len(all))
		}
	}
}

// doubled makes a quaternion of a sum of four squares.
func doubled(list []int) api.Quat {
	return api.Quat{A: 2 * list[0], B: 2 * list[1], C: 2 * list[2], D: 2 * list[3]}
}

// D7: the product of sums of four squares is one for the product.
func TestEuler(t *testing.T) {
	for m := 0; m <= api.MaxSquare; m += 83 {
		for n := 0; n <= api.MaxSquare; n += 97 {
			q := product(t, doubled(squares(t, norm.Four, m)), doubled(squares(t, norm.Four, n)))
			sum := 0
			for _, x := range coordinates(q) {
				if x%2 != 0 {
					t.Fatalf("the product for %d and %d is %v", m, n, q)
				}
				sum += x / 2 * (x / 2)
			}
			if sum != m*n {
				t.Fatalf("the product for %d and %d is %v, whose squares sum to %d", m, n, q, sum)
			}
		}
	}
}

// D8, and Split by its definition, for all primes; it refuses all other numbers.
func TestSplit(t *testing.T) {
	greatest := splits(api.MaxSquare)
	for p, prime := range primesTo(api.MaxSquare) {
		got, e := norm.Split(p)
		if !prime {
			if got != (api.Quat{}) || e != api.ErrArg {
				t.Fatalf("Split(%d) = %v, %d, but it is no prime", p, got, e)
			}
			continue
		}
		if got != greatest[p] || e != api.OK {
			t.Fatalf("Split(%d) = %v, %d, want %v", p, got, e, greatest[p])
		}
		bar, _ := norm.Conj(got)
		if product(t, got, bar) != (api.Quat{A: 2 * p}) {
			t.Fatalf("Split(%d) = %v, times its conjugate %v", p, got, product(t, got, bar))
		}
	}
}
