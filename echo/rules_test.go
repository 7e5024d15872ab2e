package echo_test

import (
	"math"
	"slices"
	"testing"

	"bellpull/api"
	"bellpull/echo"
	"bellpull/probe"
)

// R1 and R3: no arguments make a function panic or go on forever, and an error comes with nothing.
func TestStrangeArguments(t *testing.T) {
	numbers := []int{math.MinInt, math.MinInt32, -1, 0, 1, 2, 9, 10, 11, 16, 17, 100, api.MaxTerms + 1, 1 << 40, math.MaxInt}
	for _, a := range numbers {
		for _, b := range numbers {
			for _, n := range numbers {
				if got, e := echo.Kolakoski(a, b, n); e != api.OK && len(got) != 0 {
					t.Errorf("Kolakoski(%d, %d, %d) = %v, %d", a, b, n, got, e)
				}
			}
		}
		if got, e := echo.Golomb(a); e != api.OK && len(got) != 0 {
			t.Errorf("Golomb(%d) = %v, %d", a, got, e)
		}
		if got, e := echo.Ones(a); e != api.OK && got != 0 {
			t.Errorf("Ones(%d) = %d, %d", a, got, e)
		}
		if got, e := echo.Count(a); e != api.OK && got != 0 {
			t.Errorf("Count(%d) = %d, %d", a, got, e)
		}
		if got, e := echo.Words(a); e != api.OK && len(got) != 0 {
			t.Errorf("Words(%d) = %v, %d", a, got, e)
		}
	}
}

// R4: nil and an empty slice are the same word, which is smooth.
func TestEmptyWord(t *testing.T) {
	for _, word := range [][]int{nil, {}} {
		if got, e := echo.Runs(word); len(got) != 0 || e != api.OK {
			t.Errorf("Runs of nothing = %v, %d", got, e)
		}
		if got, e := echo.Derivative(word); len(got) != 0 || e != api.OK {
			t.Errorf("Derivative of nothing = %v, %d", got, e)
		}
		if got, e := echo.Smooth(word); !got || e != api.OK {
			t.Errorf("Smooth of nothing = %t, %d", got, e)
		}
		if got, e := echo.Height(word); got != 0 || e != api.OK {
			t.Errorf("Height of nothing = %d, %d", got, e)
		}
		if got, e := echo.Extend(word); !slices.Equal(got, []int{1, 2}) || e != api.OK {
			t.Errorf("Extend of nothing = %v, %d", got, e)
		}
	}
}

// calls are one call of each function that returns a slice of numbers.
func calls() map[string]func(word []int) []int {
	return map[string]func(word []int) []int{
		"Runs":       func(w []int) []int { r, _ := echo.Runs(w); return r },
		"Derivative": func(w []int) []int { r, _ := echo.Derivative(w); return r },
		"Extend":     func(w []int) []int { r, _ := echo.Extend(w); return r },
		"Kolakoski":  func([]int) []int { r, _ := echo.Kolakoski(2, 3, 50); return r },
		"Golomb":     func([]int) []int { r, _ := echo.Golomb(50); return r },
	}
}

// R5 and R6: arguments stay as they are, results are new memory, and the same
// arguments have the same result, whatever their capacity.
func TestArgumentsAndResults(t *testing.T) {
	for name, call := range calls() {
		if wrong := probe.Memory([]int{1, 2, 2, 1, 1, 2, 1, 2, 2, 1}, 7, call); wrong != "" {
			t.Errorf("%s %s", name, wrong)
		}
	}
}

// R5 for Smooth and Height, which return no memory.
func TestSmoothAndHeightChangeNothing(t *testing.T) {
	word := []int{1, 2, 1, 1, 2, 2, 1, 2}
	before := slices.Clone(word)
	echo.Smooth(word)
	echo.Height(word)
	if !slices.Equal(word, before) {
		t.Errorf("the word is %v, was %v", word, before)
	}
}

// R5 and R6: the words of a list share no memory, nor do two lists, and their
// order is the same each time.
func TestWordsAreNewMemory(t *testing.T) {
	one, _ := echo.Words(8)
	want := make([][]int, len(one))
	for i, word := range one {
		want[i] = slices.Clone(word)
	}
	for i, word := range one {
		// A word that shares memory with one before it has been overwritten by now.
		if !slices.Equal(word, want[i]) {
			t.Fatalf("word %d is %v, was %v", i, word, want[i])
		}
		for j := range word {
			word[j] = -9
		}
	}
	for range 20 {
		two, e := echo.Words(8)
		if e != api.OK || !slices.EqualFunc(two, want, slices.Equal) {
			t.Fatalf("Words(8) = %v, then %v", want, two)
		}
	}
}

// R6: calls in between, also refused ones, change nothing.
func TestCallsDoNotMatterToEachOther(t *testing.T) {
	one, _ := echo.Kolakoski(1, 2, 300)
	echo.Kolakoski(1, 3, 500)
	echo.Kolakoski(0, 3, 500)
	echo.Ones(1000)
	two, _ := echo.Kolakoski(1, 2, 300)
	if !slices.Equal(one, two) {
		t.Errorf("Kolakoski(1, 2, 300) = %v, then %v", one, two)
	}
	first, _ := echo.Count(12)
	echo.Count(17)
	echo.Words(9)
	if second, _ := echo.Count(12); first != second {
		t.Errorf("Count(12) = %d, then %d", first, second)
	}
}
