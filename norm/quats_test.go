package norm_test

import (
	"math/rand"
	"slices"
	"testing"

	"bellpull/api"
	"bellpull/norm"
)

// pairsOfQuats calls check with all pairs of small quaternions, with pairs of
// the largest ones, and with random ones of all sizes.
func pairsOfQuats(check func(x, y api.Quat)) {
	for _, x := range quatsTo(3) {
		for _, y := range quatsTo(2) {
			check(x, y)
		}
	}
	large := corners()
	for i, x := range large {
		check(x, large[(37*i+11)%len(large)])
		check(x, quatsTo(2)[i%len(quatsTo(2))])
	}
	random := rand.New(rand.NewSource(1))
	for range 300 {
		for _, high := range []int{5, 30, 200, api.MaxPart} {
			check(randomQuat(random, high), randomQuat(random, high))
			check(randomQuat(random, high), randomQuat(random, 6))
			check(randomQuat(random, 6), randomQuat(random, high))
		}
	}
}

// Examples 1 and 3, and quaternions whose results were found by hand.
func TestQuatsOfTheDocument(t *testing.T) {
	one, i, j, k := api.Quat{A: 2}, api.Quat{B: 2}, api.Quat{C: 2}, api.Quat{D: 2}
	minus := api.Quat{A: -2}
	products := []struct{ x, y, want api.Quat }{
		{i, j, k}, {j, k, i}, {k, i, j},
		{j, i, api.Quat{D: -2}}, {k, j, api.Quat{B: -2}}, {i, k, api.Quat{C: -2}},
		{i, i, minus}, {j, j, minus}, {k, k, minus},
		{one, k, k}, {j, one, j}, {minus, minus, one}, {api.Quat{}, i, api.Quat{}},
		{api.Quat{A: 1, B: 1, C: 1, D: 1}, api.Quat{A: 1, B: 1, C: 1, D: -1}, api.Quat{C: 2}},
		{api.Quat{A: 2, B: 4, C: 6, D: 8}, api.Quat{A: 10, B: 12, C: 14, D: 16}, api.Quat{A: -120, B: 24, C: 60, D: 48}},
		// Beyond MaxPart.
		{api.Quat{A: 1000, B: 1000}, api.Quat{A: 1000, B: -1000}, api.Quat{A: 1000000}},
	}
	for _, c := range products {
		if got := product(t, c.x, c.y); got != c.want {
			t.Errorf("Mul(%v, %v) = %v, want %v", c.x, c.y, got, c.want)
		}
	}
	norms := map[api.Quat]int{{A: 1, B: 1, C: 1, D: 1}: 1, {}: 0, {A: -2}: 1, {A: 3, B: -1, C: 1, D: 1}: 3, {A: 1000, B: 1000, C: -1000, D: 1000}: 1000000}
	for x, want := range norms {
		if n, e := norm.Norm(x); n != want || e != api.OK {
			t.Errorf("Norm(%v) = %d, %d, want %d", x, n, e, want)
		}
	}
	divisions := []struct{ x, y, q, r api.Quat }{
		{api.Quat{A: 4}, api.Quat{A: 2, B: 2}, api.Quat{A: 2, B: -2}, api.Quat{}},
		{api.Quat{}, one, api.Quat{}, api.Quat{}},
		// Eight quaternions are as near to (1 + i)/2, and 0 is the least of them;
		// of those that are as near to (i + j)/2 one with halves is the least.
		{api.Quat{A: 2, B: 2}, api.Quat{A: 4}, api.Quat{}, api.Quat{A: 2, B: 2}},
		{api.Quat{B: 2, C: 2}, api.Quat{A: 4}, api.Quat{A: -1, B: 1, C: 1, D: -1}, api.Quat{A: 2, D: 2}},
		// (1 + i + j)/2 is nearest to two odd ones.
		{api.Quat{A: 2, B: 2, C: 2}, api.Quat{A: 4}, api.Quat{A: 1, B: 1, C: 1, D: -1}, api.Quat{D: 2}},
		{api.Quat{A: 1, B: 1, C: 1, D: 1}, api.Quat{A: 4}, api.Quat{}, api.Quat{A: 1, B: 1, C: 1, D: 1}},
	}
	for _, c := range divisions {
		if q, r, e := norm.Divide(c.x, c.y); q != c.q || r != c.r || e != api.OK {
			t.Errorf("Divide(%v, %v) = %v, %v, %d, want %v, %v", c.x, c.y, q, r, e, c.q, c.r)
		}
	}
	gcds := []struct{ x, y, want api.Quat }{
		{api.Quat{A: 4}, api.Quat{A: 2, B: 2}, api.Quat{A: 2, B: 2}},
		{api.Quat{}, k, one}, {minus, api.Quat{}, one}, {api.Quat{A: 6}, api.Quat{A: 4}, one},
		{api.Quat{A: -1000}, api.Quat{B: 600}, api.Quat{A: 200}},
	}
	for _, c := range gcds {
		if got := gcd(t, c.x, c.y); got != c.want {
			t.Errorf("Gcd(%v, %v) = %v, want %v", c.x, c.y, got, c.want)
		}
	}
}

// D1, and Mul, Conj and Norm by their definitions.
func TestProductsAndNorms(t *testing.T) {
	pairsOfQuats(func(x, y api.Quat) {
		xy := product(t, x, y)
		if xy != multiply(x, y) {
			t.Fatalf("Mul(%v, %v) = %v, want %v", x, y, xy, multiply(x, y))
		}
		n, e := norm.Norm(x)
		if n != normOf(x) || e != api.OK {
			t.Fatalf("Norm(%v) = %d, %d, want %d", x, n, e, normOf(x))
		}
		m, _ := norm.Norm(y)
		if normOf(xy) != n*m {
			t.Fatalf("the norm of Mul(%v, %v) = %v is not %d times %d", x, y, xy, n, m)
		}
		bar, e := norm.Conj(x)
		if bar != conjugate(x) || e != api.OK {
			t.Fatalf("Conj(%v) = %v, %d", x, bar, e)
		}
		other, _ := norm.Conj(y)
		if product(t, other, bar) != conjugate(xy) {
			t.Fatalf("Conj(%v) times Conj(%v) is %v", y, x, product(t, other, bar))
		}
		if got := product(t, x, bar); got != (api.Quat{A: 2 * n}) {
			t.Fatalf("%v times its conjugate is %v, its norm %d", x, got, n)
		}
	})
}

// D2, and Divide by its definition.
func TestDivide(t *testing.T) {
	pairsOfQuats(func(x, y api.Quat) {
		if y == (api.Quat{}) {
			return
		}
		q, r, e := norm.Divide(x, y)
		if e != api.OK || q != quotientOf(x, y) {
			t.Fatalf("Divide(%v, %v) = %v, %v, %d, want %v", x, y, q, r, e, quotientOf(x, y))
		}
		if add(multiply(q, y), r) != x || normOf(r) >= normOf(y) || !isIntegral(coordinates(r)) {
			t.Fatalf("Divide(%v, %v) = %v, %v", x, y, q, r)
		}
	})
}

// Where a coordinate is as near to two numbers, or even and odd quotients are
// as near, the least one is taken.
func TestDivideTies(t *testing.T) {
	for _, y := range []api.Quat{{A: 4}, {B: -4}, {A: 8}, {A: 2, C: 2}, {A: 2, B: 2, C: 2, D: -2}, {A: 4, B: 4}, {C: 12}} {
		for _, x := range append(quatsTo(5), corners()...) {
			q, r, e := norm.Divide(x, y)
			if want := quotientOf(x, y); q != want || add(multiply(q, y), r) != x || e != api.OK {
				t.Fatalf("Divide(%v, %v) = %v, %v, %d, want %v", x, y, q, r, e, want)
			}
		}
	}
}

// Gcd by its definition: no common right divisor has a greater norm, and none
// of the same norm is lexicographically greater.
func TestGcd(t *testing.T) {
	lists := byNorm(9)
	small := quatsTo(2)
	check := func(x, y api.Quat) {
		if x == y && x == (api.Quat{}) {
			return
		}
		// The norm of a divisor is at most that of what it divides.
		highest := normOf(x)
		if highest == 0 || normOf(y) > 0 && normOf(y) < highest {
			highest = normOf(y)
		}
		if want := gcdOf(lists[:highest+1], x, y); gcd(t, x, y) != want {
			t.Fatalf("Gcd(%v, %v) = %v, want %v", x, y, gcd(t, x, y), want)
		}
	}
	for _, x := range small {
		for _, y := range small {
			check(x, y)
		}
	}
	for i, x := range quatsTo(3) {
		for j, y := range quatsTo(3) {
			if (i+3*j)%29 == 0 {
				check(x, y)
			}
		}
		check(x, api.Quat{})
		check(api.Quat{}, x)
	}
	random := rand.New(rand.NewSource(2))
	lists = byNorm(36)
	for range 60 {
		x, y := randomQuat(random, 6), randomQuat(random, 6)
		check(x, y)
	}
	for range 200 {
		d := randomQuat(random, 3)
		x, y := multiply(randomQuat(random, 2), d), multiply(randomQuat(random, 2), d)
		check(x, y)
	}
}

// D3: Gcd divides both, and what divides both divides it, also if it is large.
func TestDivisors(t *testing.T) {
	random := rand.New(rand.NewSource(3))
	check := func(d, x, y api.Quat) {
		t.Helper()
		g := gcd(t, x, y)
		if !divides(g, x) || !divides(g, y) || !divides(d, g) {
			t.Fatalf("Gcd(%v, %v) = %v, but %v divides both", x, y, g, d)
		}
		for _, unit := range norm.Units() {
			if less(g, multiply(unit, g)) {
				t.Fatalf("Gcd(%v, %v) = %v, but %v times it is greater", x, y, g, unit)
			}
		}
	}
	for range 1500 {
		for _, high := range []int{2, 5, 12, 22} {
			a, b, d := randomQuat(random, high), randomQuat(random, 22), randomQuat(random, 22)
			x, y := multiply(a, d), multiply(b, d)
			if d != (api.Quat{}) && (x != api.Quat{} || y != api.Quat{}) {
				check(d, x, y)
			}
		}
	}
	large := corners()
	for i, x := range large {
		if y := large[(53*i+5)%len(large)]; y != (api.Quat{}) {
			check(api.Quat{A: 2}, x, y)
			check(y, y, y)
			check(y, api.Quat{}, y)
		}
	}
}

// D3: Gcd(x, 0) and Gcd(0, x) are u·x for a unit u.
func TestGcdOfZero(t *testing.T) {
	for _, x := range append(quatsTo(4), corners()...) {
		if x == (api.Quat{}) {
			continue
		}
		g := gcd(t, x, api.Quat{})
		isMultiple := func(unit api.Quat) bool { return multiply(unit, x) == g }
		if !slices.ContainsFunc(norm.Units(), isMultiple) || gcd(t, api.Quat{}, x) != g {
			t.Fatalf("Gcd(%v, 0) = %v, the other way round %v", x, g, gcd(t, api.Quat{}, x))
		}
	}
}

// D4, and Units by their definition.
func TestUnits(t *testing.T) {
	units := norm.Units()
	if want := byNorm(1)[1]; !slices.Equal(units, want) || len(units) != 24 {
		t.Fatalf("Units() = %v, want %v", units, want)
	}
	for _, u := range units {
		for _, v := range units {
			if !slices.Contains(units, product(t, u, v)) {
				t.Errorf("%v times %v is no unit", u, v)
			}
		}
	}
}

// Prime of all small quaternions, the largest ones, and random ones.
func TestPrime(t *testing.T) {
	prime := primesTo(api.MaxPart * api.MaxPart)
	seen := map[bool]int{}
	check := func(x api.Quat) {
		t.Helper()
		got, e := norm.Prime(x)
		if got != prime[normOf(x)] || e != api.OK {
			t.Fatalf("Prime(%v) = %t, %d, the norm is %d", x, got, e, normOf(x))
		}
		seen[got]++
	}
	for _, x := range append(quatsTo(5), corners()...) {
		check(x)
	}
	random := rand.New(rand.NewSource(4))
	for range 2000 {
		check(randomQuat(random, 60))
		check(randomQuat(random, api.MaxPart))
	}
	// The square of a prime has no lesser divisor.
	for _, p := range []int{2, 3, 5, 7, 31, 97, 499} {
		check(api.Quat{A: 2 * p})
	}
	if seen[true] < 100 || seen[false] < 100 {
		t.Errorf("too few cases: %v", seen)
	}
}
