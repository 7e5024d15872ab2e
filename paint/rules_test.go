package paint_test

import (
	"math"
	"slices"
	"testing"

	"bellpull/paint"
	"bellpull/probe"
)

// strange are numbers in, at the ends of, and far beyond all ranges.
func strange() []int {
	return []int{math.MinInt, math.MinInt32, -2, -1, 0, 1, 2, 3, 4, 5, 8, 9, 14, 15, 20, 21, 1 << 20, math.MaxInt32, math.MaxInt}
}

// R1 and R3: no arguments make a function panic or go on forever, and an error comes with nothing.
func TestStrangeArguments(t *testing.T) {
	lists := [][]int{nil, {}, {0}, {-1}, {math.MaxInt}, {0, 1, 0}, {0, 3, math.MinInt}, make([]int, 28), make([]int, 5000)}
	for _, a := range strange() {
		for _, l := range lists {
			if got, e := paint.Progression(l, a); e != 0 && len(got) != 0 {
				t.Errorf("Progression(%v, %d) = %v, %d", l, a, got, e)
			}
		}
		for _, b := range strange() {
			if got, e := paint.Sumless(a, b); e != 0 && len(got) != 0 {
				t.Errorf("Sumless(%d, %d) = %v, %d", a, b, got, e)
			}
			for _, c := range strange() {
				callWithThree(t, a, b, c, lists)
			}
		}
	}
	for _, l := range lists {
		if got, e := paint.Sum(l); e != 0 && len(got) != 0 {
			t.Errorf("Sum(%v) = %v, %d", l, got, e)
		}
	}
}

func callWithThree(t *testing.T, a, b, c int, lists [][]int) {
	if got, e := paint.Avoid(a, b, c); e != 0 && len(got) != 0 {
		t.Errorf("Avoid(%d, %d, %d) = %v, %d", a, b, c, got, e)
	}
	if got, e := paint.Stepless(a, b, c); e != 0 && len(got) != 0 {
		t.Errorf("Stepless(%d, %d, %d) = %v, %d", a, b, c, got, e)
	}
	if got, e := paint.Count(a, b, c); e != 0 && got != 0 {
		t.Errorf("Count(%d, %d, %d) = %d, %d", a, b, c, got, e)
	}
	for _, l := range lists {
		if got, e := paint.Clique(a, l, b, c); e != 0 && len(got) != 0 {
			t.Errorf("Clique(%d, %v, %d, %d) = %v, %d", a, l, b, c, got, e)
		}
	}
}

// calls are one call of each function that returns a slice; each gets colours of its own.
func calls() map[string]func(colors []int) []int {
	return map[string]func(colors []int) []int{
		"Clique":      func(l []int) []int { r, _ := paint.Clique(4, l, 0, 3); return r },
		"Sum":         func(l []int) []int { r, _ := paint.Sum(l); return r },
		"Progression": func(l []int) []int { r, _ := paint.Progression(l, 3); return r },
		"Avoid":       func([]int) []int { r, _ := paint.Avoid(5, 3, 3); return r },
		"Sumless":     func([]int) []int { r, _ := paint.Sumless(13, 3); return r },
		"Stepless":    func([]int) []int { r, _ := paint.Stepless(8, 2, 3); return r },
	}
}

// R5 and R6: arguments stay as they are, results are new memory, and the same
// arguments have the same result, whatever their capacity.
func TestArgumentsAndResults(t *testing.T) {
	for name, call := range calls() {
		if wrong := probe.Memory([]int{0, 0, 1, 0, 0, 0}, 7, call); wrong != "" {
			t.Errorf("%s %s", name, wrong)
		}
	}
}

// R6: calls in between, also refused ones, change nothing.
func TestCallsDoNotMatterToEachOther(t *testing.T) {
	first, _ := paint.Avoid(8, 3, 4)
	paint.Avoid(6, 3, 3)
	paint.Avoid(99, 3, 3)
	paint.Stepless(20, 3, 3)
	paint.Count(5, 4, 4)
	again, _ := paint.Avoid(8, 3, 4)
	if !slices.Equal(first, again) {
		t.Errorf("Avoid(8, 3, 4) = %v, then %v", first, again)
	}
	one, _ := paint.Count(5, 3, 4)
	paint.Count(5, 4, 3)
	if two, _ := paint.Count(5, 3, 4); one != two {
		t.Errorf("Count(5, 3, 4) = %d, then %d", one, two)
	}
}
