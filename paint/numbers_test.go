package paint_test

import (
	"fmt"
	"math/rand"
	"slices"
	"testing"

	"bellpull/api"
	"bellpull/paint"
	"bellpull/probe"
)

func checkSum(t *testing.T, colors []int) {
	t.Helper()
	got, e := paint.Sum(colors)
	want := leastSum(colors)
	check(t, fmt.Sprintf("Sum(%v)", colors), got, e, want, want != nil)
}

func checkProgression(t *testing.T, colors []int) {
	t.Helper()
	for k := 3; k <= 4; k++ {
		got, e := paint.Progression(colors, k)
		want := leastProgression(colors, k)
		check(t, fmt.Sprintf("Progression(%v, %d)", colors, k), got, e, want, want != nil)
	}
}

// Sum and Progression, A7 and P3: what is found is the least that is there.
func TestPatternsOfAllSmallColorings(t *testing.T) {
	for n := 1; n <= 9; n++ {
		for colors := range probe.Lists(n, 0, 2) {
			checkSum(t, colors)
			checkProgression(t, colors)
		}
	}
}

func TestPatternsOfLargerColorings(t *testing.T) {
	random := rand.New(rand.NewSource(2))
	for range 20000 {
		colors := make([]int, 10+random.Intn(11))
		r := 2 + random.Intn(2)
		for i := range colors {
			colors[i] = random.Intn(r)
		}
		checkProgression(t, colors)
		checkSum(t, colors[:min(len(colors), api.MaxSum)])
	}
}

// Sumless, A1 and P3, for all arguments.
func TestSumlessEverywhere(t *testing.T) {
	for n := 1; n <= api.MaxSum; n++ {
		for r := 1; r <= api.MaxColors; r++ {
			got, e := paint.Sumless(n, r)
			want, ok := leastWithout(n, r, hasSum)
			check(t, fmt.Sprintf("Sumless(%d, %d)", n, r), got, e, want, ok)
			if e == api.OK {
				checkFree(t, got, n, r, hasSum)
			}
		}
	}
}

// Stepless, A1 and P3, for all arguments.
func TestSteplessEverywhere(t *testing.T) {
	for n := 1; n <= api.MaxSteps; n++ {
		for r := 1; r <= api.MaxColors; r++ {
			for k := 3; k <= 4; k++ {
				got, e := paint.Stepless(n, r, k)
				want, ok := leastWithout(n, r, hasProgression(k))
				check(t, fmt.Sprintf("Stepless(%d, %d, %d)", n, r, k), got, e, want, ok)
				if e == api.OK {
					checkFree(t, got, n, r, hasProgression(k))
				}
			}
		}
	}
}

func checkFree(t *testing.T, colors []int, n, r int, pattern func([]int) bool) {
	t.Helper()
	if len(colors) != n || slices.Min(colors) < 0 || slices.Max(colors) >= r || pattern(colors) {
		t.Errorf("%v is no colouring of %d numbers with %d colours without the pattern", colors, n, r)
	}
}

// The reference itself is right: no colouring before the least one is free.
func TestNumbersAmongAllColorings(t *testing.T) {
	for n := 1; n <= 10; n++ {
		for r := 1; r <= api.MaxColors; r++ {
			got, e := paint.Sumless(n, r)
			want := leastOfAll(n, r, hasSum)
			check(t, fmt.Sprintf("Sumless(%d, %d)", n, r), got, e, want, want != nil)
			for k := 3; k <= 4; k++ {
				got, e := paint.Stepless(n, r, k)
				want := leastOfAll(n, r, hasProgression(k))
				check(t, fmt.Sprintf("Stepless(%d, %d, %d)", n, r, k), got, e, want, want != nil)
			}
		}
	}
}

func leastOfAll(n, r int, pattern func([]int) bool) []int {
	for colors := range probe.Lists(n, 0, r-1) {
		if !pattern(colors) {
			return colors
		}
	}
	return nil
}

// A4.
func TestSumlessSchur(t *testing.T) {
	for r, from := range map[int]int{1: 2, 2: 5, 3: 14} {
		for n := 1; n <= api.MaxSum; n++ {
			if _, e := paint.Sumless(n, r); (e == api.ErrNone) != (n >= from) {
				t.Errorf("Sumless(%d, %d): %d", n, r, e)
			}
		}
	}
}

// A5.
func TestSteplessVanDerWaerden(t *testing.T) {
	for n := 1; n <= api.MaxSteps; n++ {
		if _, e := paint.Stepless(n, 2, 3); (e == api.ErrNone) != (n >= 9) {
			t.Errorf("Stepless(%d, 2, 3): %d", n, e)
		}
		for k := 3; k <= 4; k++ {
			if _, e := paint.Stepless(n, 1, k); (e == api.ErrNone) != (n >= k) {
				t.Errorf("Stepless(%d, 1, %d): %d", n, k, e)
			}
		}
	}
}

// A3: the colours of the first numbers are still free, and so there is a colouring for fewer.
func TestNumbersFewer(t *testing.T) {
	for r := 1; r <= api.MaxColors; r++ {
		for n := 2; n <= api.MaxSum; n++ {
			colors, e := paint.Sumless(n, r)
			if e != api.OK {
				continue
			}
			if s, e := paint.Sum(colors[:n-1]); e != api.ErrNone {
				t.Errorf("Sum(%v) = %v, %d", colors[:n-1], s, e)
			}
			if _, e := paint.Sumless(n-1, r); e != api.OK {
				t.Errorf("Sumless(%d, %d): %d", n-1, r, e)
			}
		}
		for n := 2; n <= api.MaxSteps; n++ {
			for k := 3; k <= 4; k++ {
				colors, e := paint.Stepless(n, r, k)
				if e != api.OK {
					continue
				}
				if p, e := paint.Progression(colors[:n-1], k); e != api.ErrNone {
					t.Errorf("Progression(%v, %d) = %v, %d", colors[:n-1], k, p, e)
				}
				if _, e := paint.Stepless(n-1, r, k); e != api.OK {
					t.Errorf("Stepless(%d, %d, %d): %d", n-1, r, k, e)
				}
			}
		}
	}
}

// A8: pairs of numbers that are coloured by their differences.
func TestSchurAndRamsey(t *testing.T) {
	seen := 0
	for n := 2; n <= api.MaxDots; n++ {
		for colors := range probe.Lists(n-1, 0, 1) {
			if _, e := paint.Sum(colors); e != api.ErrNone {
				continue
			}
			seen++
			var pairs []int
			for a := 0; a < n; a++ {
				for b := a + 1; b < n; b++ {
					pairs = append(pairs, colors[b-a-1])
				}
			}
			for color := range 2 {
				if c, e := paint.Clique(n, pairs, color, 3); e != api.ErrNone {
					t.Errorf("Clique(%d, %v, %d, 3) = %v, %d", n, pairs, color, c, e)
				}
			}
		}
	}
	// One to four numbers have 2, 2, 4 and 2 such colourings, five have none.
	if want := 2 + 2 + 4 + 2; seen != want {
		t.Errorf("%d colourings without a sum, want %d", seen, want)
	}
}

// Examples 2 and 3, and the edges of the numbers.
func TestNumbersKnown(t *testing.T) {
	got, e := paint.Sumless(4, 2)
	check(t, "Sumless(4, 2)", got, e, []int{0, 1, 1, 0}, true)
	got, e = paint.Stepless(8, 2, 3)
	check(t, "Stepless(8, 2, 3)", got, e, []int{0, 0, 1, 1, 0, 0, 1, 1}, true)
	got, e = paint.Sumless(1, 1)
	check(t, "Sumless(1, 1)", got, e, []int{0}, true)
	got, e = paint.Stepless(1, 3, 4)
	check(t, "Stepless(1, 3, 4)", got, e, []int{0}, true)
	got, e = paint.Sum([]int{0, 0})
	check(t, "Sum([0 0])", got, e, []int{1, 1}, true)
	got, e = paint.Sum([]int{2})
	check(t, "Sum([2])", got, e, nil, false)
	got, e = paint.Sum(repeated(2, api.MaxSum))
	check(t, "Sum of the most numbers", got, e, []int{1, 1}, true)
	got, e = paint.Sum([]int{0, 1, 2, 0, 0})
	check(t, "Sum of two different numbers", got, e, []int{1, 4}, true)
	got, e = paint.Progression([]int{0, 1, 0, 1, 0}, 3)
	check(t, "Progression([0 1 0 1 0], 3)", got, e, []int{1, 2}, true)
	got, e = paint.Progression([]int{0, 1, 0, 1, 0}, 4)
	check(t, "Progression([0 1 0 1 0], 4)", got, e, nil, false)
	got, e = paint.Progression([]int{2}, 3)
	check(t, "Progression([2], 3)", got, e, nil, false)
	got, e = paint.Progression(repeated(2, api.MaxSteps), 4)
	check(t, "Progression of the most numbers", got, e, []int{1, 1}, true)
	// Colour 2 is at 2, 8, 14 and 20: with the widest step there is, up to the last number.
	wide := []int{0, 2, 1, 0, 1, 0, 0, 2, 1, 1, 0, 1, 0, 2, 0, 1, 1, 0, 1, 2}
	got, e = paint.Progression(wide, 4)
	check(t, "Progression that ends at the last number", got, e, []int{2, 6}, true)
}

func TestSumErrors(t *testing.T) {
	for _, none := range [][]int{nil, {}} {
		got, e := paint.Sum(none)
		refused(t, "Sum of nothing", got, e, api.ErrForm)
	}
	for _, size := range []int{api.MaxSum + 1, api.MaxSteps, 1000} {
		got, e := paint.Sum(make([]int, size))
		refused(t, "Sum of too many", got, e, api.ErrForm)
	}
	for i := range api.MaxSum {
		for _, color := range append(probe.Outside(0, api.MaxColors-1), 4) {
			colors := make([]int, api.MaxSum)
			colors[i] = color
			got, e := paint.Sum(colors)
			refused(t, "Sum of a bad colour", got, e, api.ErrForm)
		}
	}
}

func TestProgressionErrors(t *testing.T) {
	for _, none := range [][]int{nil, {}} {
		got, e := paint.Progression(none, 3)
		refused(t, "Progression in nothing", got, e, api.ErrForm)
	}
	for _, size := range []int{api.MaxSteps + 1, 1000} {
		got, e := paint.Progression(make([]int, size), 3)
		refused(t, "Progression in too many", got, e, api.ErrForm)
	}
	for i := range api.MaxSteps {
		for _, color := range append(probe.Outside(0, api.MaxColors-1), 4) {
			colors := make([]int, api.MaxSteps)
			colors[i] = color
			got, e := paint.Progression(colors, 4)
			refused(t, "Progression in a bad colour", got, e, api.ErrForm)
		}
	}
	// A colouring that is malformed as well does not change that it is ErrArg.
	for _, k := range append(probe.Outside(3, 4), 0, 1) {
		for _, colors := range [][]int{nil, {0, 0, 0, 0, 0}, {0, 3}, make([]int, 21)} {
			got, e := paint.Progression(colors, k)
			refused(t, "Progression of k terms", got, e, api.ErrArg)
		}
	}
}

func TestSumlessAndSteplessErrors(t *testing.T) {
	for _, n := range probe.Outside(1, api.MaxSum) {
		got, e := paint.Sumless(n, 3)
		refused(t, "Sumless, n", got, e, api.ErrArg)
	}
	for _, r := range probe.Outside(1, api.MaxColors) {
		got, e := paint.Sumless(3, r)
		refused(t, "Sumless, r", got, e, api.ErrArg)
		got, e = paint.Stepless(3, r, 3)
		refused(t, "Stepless, r", got, e, api.ErrArg)
	}
	for _, n := range probe.Outside(1, api.MaxSteps) {
		got, e := paint.Stepless(n, 3, 4)
		refused(t, "Stepless, n", got, e, api.ErrArg)
	}
	for _, k := range append(probe.Outside(3, 4), 0, 1) {
		for _, n := range []int{1, 9, 20} {
			got, e := paint.Stepless(n, 2, k)
			refused(t, "Stepless, k", got, e, api.ErrArg)
		}
	}
}
