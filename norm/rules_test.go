package norm_test

import (
	"math"
	"math/rand"
	"slices"
	"testing"

	"bellpull/api"
	"bellpull/norm"
	"bellpull/probe"
)

// refused checks that the functions of one quaternion and those of two return
// an error, and nothing with it, wherever the quaternion is and with whatever other one.
func refused(t *testing.T, x api.Quat, others []api.Quat, want api.Errno) {
	t.Helper()
	if got, e := norm.Conj(x); got != (api.Quat{}) || e != want {
		t.Errorf("Conj(%v) = %v, %d, want %d", x, got, e, want)
	}
	if got, e := norm.Norm(x); got != 0 || e != want {
		t.Errorf("Norm(%v) = %d, %d, want %d", x, got, e, want)
	}
	if got, e := norm.Prime(x); got || e != want {
		t.Errorf("Prime(%v) = %t, %d, want %d", x, got, e, want)
	}
	for _, y := range others {
		refusedPair(t, x, y, want)
		refusedPair(t, y, x, want)
	}
}

// refusedPair checks that the functions of two quaternions return an error.
func refusedPair(t *testing.T, x, y api.Quat, want api.Errno) {
	t.Helper()
	if got, e := norm.Mul(x, y); got != (api.Quat{}) || e != want {
		t.Errorf("Mul(%v, %v) = %v, %d, want %d", x, y, got, e, want)
	}
	if q, r, e := norm.Divide(x, y); q != (api.Quat{}) || r != (api.Quat{}) || e != want {
		t.Errorf("Divide(%v, %v) = %v, %v, %d, want %d", x, y, q, r, e, want)
	}
	if got, e := norm.Gcd(x, y); got != (api.Quat{}) || e != want {
		t.Errorf("Gcd(%v, %v) = %v, %d, want %d", x, y, got, e, want)
	}
}

// placed are quaternions with one coordinate, at each place, and three others.
func placed(one, other int) []api.Quat {
	return []api.Quat{{A: one, B: other, C: other, D: other}, {A: other, B: one, C: other, D: other}, {A: other, B: other, C: one, D: other}, {A: other, B: other, C: other, D: one}}
}

// beyond are integral quaternions with a coordinate that is out of its range.
func beyond() []api.Quat {
	var all []api.Quat
	for _, x := range probe.Outside(-api.MaxPart, api.MaxPart) {
		all = append(all, placed(x, x&1)...)
		all = append(all, placed(x, x)[0])
	}
	return append(all, placed(api.MaxPart+2, 0)...)
}

// A quaternion that is not integral is refused before one out of its range,
// and both before the divisor 0.
func TestNotIntegral(t *testing.T) {
	others := append(beyond(), api.Quat{}, api.Quat{A: 2}, api.Quat{A: 1, B: 1, C: 1, D: 1}, api.Quat{A: 1})
	for _, odd := range []int{1, -1, 3, 999, -999, 1001, math.MaxInt, math.MinInt + 1} {
		for _, even := range []int{0, 2, -2, 1000, 1002, math.MinInt, math.MaxInt - 1} {
			for _, x := range append(placed(odd, even), placed(even, odd)...) {
				refused(t, x, others, api.ErrForm)
			}
			refused(t, api.Quat{A: odd, B: even, C: odd, D: even}, others, api.ErrForm)
			refused(t, api.Quat{A: even, B: even, C: odd, D: odd}, others, api.ErrForm)
		}
	}
}

// A coordinate that is out of its range is refused before the divisor 0.
func TestOutOfRange(t *testing.T) {
	others := append(beyond(), api.Quat{}, api.Quat{A: 2}, api.Quat{A: 1, B: -1, C: 1, D: 1}, api.Quat{A: 1000, D: -1000})
	for _, x := range beyond() {
		refused(t, x, others, api.ErrArg)
	}
	for _, x := range corners() {
		refusedPair(t, x, api.Quat{C: -1002}, api.ErrArg)
		if n, e := norm.Norm(x); n != normOf(x) || e != api.OK {
			t.Errorf("Norm(%v) = %d, %d", x, n, e)
		}
	}
}

// Nothing is divided by 0, and any quaternion divides 0.
func TestZero(t *testing.T) {
	zero := api.Quat{}
	for _, x := range append(quatsTo(2), corners()...) {
		if q, r, e := norm.Divide(x, zero); q != zero || r != zero || e != api.ErrNone {
			t.Errorf("Divide(%v, 0) = %v, %v, %d", x, q, r, e)
		}
		if x == zero {
			continue
		}
		if q, r, e := norm.Divide(zero, x); q != zero || r != zero || e != api.OK {
			t.Errorf("Divide(0, %v) = %v, %v, %d", x, q, r, e)
		}
	}
	if got, e := norm.Gcd(zero, zero); got != zero || e != api.ErrNone {
		t.Errorf("Gcd(0, 0) = %v, %d", got, e)
	}
	if got, e := norm.Prime(zero); got || e != api.OK {
		t.Errorf("Prime(0) = %t, %d", got, e)
	}
}

// Numbers that are out of their range are refused, also 0 by Hurwitz.
func TestNumbersOutOfRange(t *testing.T) {
	for _, n := range probe.Outside(0, api.MaxSquare) {
		for name, call := range map[string]func(int) ([]int, api.Errno){"Four": norm.Four, "Three": norm.Three} {
			if got, e := call(n); len(got) != 0 || e != api.ErrArg {
				t.Errorf("%s(%d) = %v, %d", name, n, got, e)
			}
		}
		if got, e := norm.Count(n); got != 0 || e != api.ErrArg {
			t.Errorf("Count(%d) = %d, %d", n, got, e)
		}
	}
	for _, n := range probe.Outside(1, api.MaxSquare) {
		if got, e := norm.Hurwitz(n); got != 0 || e != api.ErrArg {
			t.Errorf("Hurwitz(%d) = %d, %d", n, got, e)
		}
	}
	// 10007 and 2^31 - 1 are primes, but too large.
	for _, n := range append(probe.Outside(0, api.MaxSquare), 10007, -2, -7) {
		if got, e := norm.Split(n); got != (api.Quat{}) || e != api.ErrArg {
			t.Errorf("Split(%d) = %v, %d", n, got, e)
		}
	}
}

// R5: results are new memory, and what is done to them changes no later one.
func TestResultsAreNew(t *testing.T) {
	units := norm.Units()
	want := slices.Clone(units)
	for i := range units {
		units[i] = api.Quat{A: 77}
	}
	if got := norm.Units(); !slices.Equal(got, want) {
		t.Errorf("Units() = %v, then %v", want, got)
	}
	for _, n := range []int{0, 1, 30, 100, 9998} {
		for name, call := range map[string]func(int) ([]int, api.Errno){"Four": norm.Four, "Three": norm.Three} {
			list := squares(t, call, n)
			want := slices.Clone(list)
			for i := range list {
				list[i] = -5
			}
			if got := squares(t, call, n); !slices.Equal(got, want) {
				t.Errorf("%s(%d) = %v, then %v", name, n, want, got)
			}
		}
	}
}

// R6: calls in between, also refused ones, change nothing.
func TestCallsDoNotMatterToEachOther(t *testing.T) {
	random := rand.New(rand.NewSource(5))
	x, y := randomQuat(random, 900), randomQuat(random, 90)
	q, r, _ := norm.Divide(x, y)
	d := gcd(t, x, y)
	for range 20 {
		norm.Gcd(randomQuat(random, 500), randomQuat(random, 500))
		norm.Divide(randomQuat(random, 500), api.Quat{})
		norm.Mul(x, api.Quat{A: 1})
		norm.Split(9973)
		q2, r2, _ := norm.Divide(x, y)
		if q2 != q || r2 != r || gcd(t, x, y) != d {
			t.Fatalf("Divide(%v, %v) = %v, %v, then %v, %v", x, y, q, r, q2, r2)
		}
	}
}
