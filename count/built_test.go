package count_test

import (
	"math/rand"
	"slices"
	"testing"

	"bellpull/api"
	"bellpull/count"
	"bellpull/probe"
)

// checkSum compares Sum with its definition and checks E1.
func checkSum(t *testing.T, d int, x, y []api.Linear, high int) {
	t.Helper()
	got, e := count.Sum(d, x, y)
	want, valid := sumOf(x, y)
	if !valid {
		if len(got) != 0 || e != api.ErrFull {
			t.Fatalf("Sum(%d, %v, %v) = %v, %d", d, x, y, got, e)
		}
		return
	}
	if !sameSets(got, want) || e != api.OK {
		t.Fatalf("Sum(%d, %v, %v) = %v, %d, want %v", d, x, y, got, e, want)
	}
	inX, inY := boxOf(d, x, high), boxOf(d, y, high)
	for v := range probe.Lists(d, 0, high) {
		sum := false
		for u := range probe.Lists(d, 0, high) {
			if sum = inX.has(u) && inY.has(minus(v, u)); sum {
				break
			}
		}
		if has(t, d, got, v) != sum {
			t.Fatalf("Has(%d, Sum(%v, %v), %v) = %t", d, x, y, v, !sum)
		}
	}
}

// checkStar compares Star with its definition and checks E2.
func checkStar(t *testing.T, d int, x []api.Linear, high int) {
	t.Helper()
	got, e := count.Star(d, x)
	want, valid := starOf(d, x)
	if !valid {
		if len(got) != 0 || e != api.ErrFull {
			t.Fatalf("Star(%d, %v) = %v, %d", d, x, got, e)
		}
		return
	}
	if !sameSets(got, want) || e != api.OK {
		t.Fatalf("Star(%d, %v) = %v, %d, want %v", d, x, got, e, want)
	}
	inX, sums := boxOf(d, x, high), emptyBox(d, high)
	for v := range probe.Lists(d, 0, high) {
		sum := total(v) == 0
		for u := range probe.Lists(d, 0, high) {
			sum = sum || total(u) > 0 && inX.has(u) && sums.has(minus(v, u))
		}
		sums.in[sums.index(v)] = sum
		if has(t, d, got, v) != sum {
			t.Fatalf("Has(%d, Star(%v), %v) = %t", d, x, v, !sum)
		}
	}
}

// heights are how far sums are compared in 1 to 3 dimensions.
var heights = []int{60, 9, 4}

func TestSmallSumsAndStars(t *testing.T) {
	for numbers := range probe.Lists(4, 0, 3) {
		x := []api.Linear{lin(numbers[:1], numbers[1:2])}
		y := []api.Linear{lin(numbers[2:3]), lin(numbers[3:])}
		checkSum(t, 1, x, y, 20)
		checkStar(t, 1, x, 20)
		checkStar(t, 1, y, 20)
		checkStar(t, 1, append(x, y[0]), 20)
		checkStar(t, 2, []api.Linear{lin(numbers[:2], numbers[2:])}, 7)
		checkStar(t, 2, []api.Linear{lin(numbers[:2]), lin(numbers[2:])}, 7)
	}
}

func TestRandomSumsAndStars(t *testing.T) {
	random := rand.New(rand.NewSource(11))
	for round := range 3000 {
		d := 1 + round%api.MaxDims
		high := []int{1, 2, 4, 12}[random.Intn(4)]
		x := randomSet(random, d, random.Intn(5), 2, high)
		y := randomSet(random, d, random.Intn(4), 2, high)
		checkSum(t, d, x, y, heights[d-1])
		checkStar(t, d, x, heights[d-1])
	}
}

// A result is as large as it may be, and then larger by one.
func TestSumsAtTheLimits(t *testing.T) {
	one := func(base int, periods int) api.Linear {
		return lin([]int{base, 0}, slices.Repeat([][]int{{20, 20}}, periods)...)
	}
	times := func(n int) []api.Linear { return slices.Repeat([]api.Linear{one(1, 0)}, n) }
	cases := []struct {
		x, y []api.Linear
		ok   bool
	}{
		{times(2), times(4), true},
		{times(8), times(1), true},
		{times(3), times(3), false},
		{times(1), times(8), true},
		{times(8), times(2), false},
		{times(8), times(8), false},
		{times(8), nil, true},
		{nil, times(8), true},
		{nil, nil, true},
		{[]api.Linear{one(20, 0)}, []api.Linear{one(0, 0)}, true},
		{[]api.Linear{one(20, 0)}, []api.Linear{one(1, 0)}, false},
		{[]api.Linear{one(10, 0)}, []api.Linear{one(10, 0), one(11, 0)}, false},
		{[]api.Linear{one(1, 2)}, []api.Linear{one(2, 2)}, true},
		{[]api.Linear{one(1, 2)}, []api.Linear{one(2, 3)}, false},
		{[]api.Linear{one(1, 4)}, []api.Linear{one(2, 0)}, true},
		{[]api.Linear{one(1, 0)}, []api.Linear{one(2, 0), one(3, 4)}, true},
		{[]api.Linear{one(1, 0), one(1, 1)}, []api.Linear{one(2, 0), one(3, 4)}, false},
	}
	for _, c := range cases {
		if _, e := count.Sum(2, c.x, c.y); (e == api.OK) != c.ok {
			t.Errorf("Sum(2, %v, %v): %d", c.x, c.y, e)
		}
		checkSum(t, 2, c.x, c.y, 4)
	}
}

func TestStarsAtTheLimits(t *testing.T) {
	one := func(base int, periods int) api.Linear {
		return lin([]int{0, base}, slices.Repeat([][]int{{20, 20}}, periods)...)
	}
	cases := []struct {
		x  []api.Linear
		ok bool
	}{
		{nil, true},
		{[]api.Linear{one(0, 0)}, true},
		{[]api.Linear{one(20, 3)}, true},
		{[]api.Linear{one(20, 4)}, false},
		{[]api.Linear{one(10, 1), one(10, 1)}, true},
		{[]api.Linear{one(10, 2), one(10, 0)}, true},
		{[]api.Linear{one(10, 2), one(10, 1)}, false},
		{[]api.Linear{one(10, 0), one(11, 0)}, false},
		{[]api.Linear{one(7, 0), one(7, 0), one(6, 0)}, true},
		{[]api.Linear{one(7, 0), one(7, 0), one(7, 0)}, false},
		{[]api.Linear{one(1, 0), one(1, 1), one(1, 0)}, true},
		{[]api.Linear{one(1, 1), one(1, 1), one(1, 0)}, false},
		{slices.Repeat([]api.Linear{one(0, 0)}, 4), false},
		{slices.Repeat([]api.Linear{one(0, 0)}, api.MaxLinear), false},
	}
	for _, c := range cases {
		if _, e := count.Star(2, c.x); (e == api.OK) != c.ok {
			t.Errorf("Star(2, %v): %d", c.x, e)
		}
		checkStar(t, 2, c.x, 4)
	}
}

// The orders of linear sets and of periods, found by hand.
func TestOrdersOfSumsAndStars(t *testing.T) {
	x := []api.Linear{lin([]int{1}, []int{11}), lin([]int{2}, []int{12})}
	y := []api.Linear{lin([]int{4}, []int{14}), lin([]int{8})}
	sum := []api.Linear{lin([]int{5}, []int{11}, []int{14}), lin([]int{9}, []int{11}), lin([]int{6}, []int{12}, []int{14}), lin([]int{10}, []int{12})}
	if got, e := count.Sum(1, x, y); !sameSets(got, sum) || e != api.OK {
		t.Errorf("Sum = %v, %d", got, e)
	}
	star := []api.Linear{lin([]int{0}), lin([]int{1}, []int{1}, []int{11}), lin([]int{2}, []int{2}, []int{12}), lin([]int{3}, []int{1}, []int{11}, []int{2}, []int{12})}
	if got, e := count.Star(1, x); !sameSets(got, star) || e != api.OK {
		t.Errorf("Star = %v, %d", got, e)
	}
	three := []api.Linear{lin([]int{1}), lin([]int{2}), lin([]int{4})}
	got, e := count.Star(1, three)
	if e != api.OK || len(got) != 8 {
		t.Fatalf("Star = %v, %d", got, e)
	}
	for number, l := range got {
		if l.Base[0] != number {
			t.Errorf("Star has the base %v at %d", l.Base, number)
		}
	}
}
