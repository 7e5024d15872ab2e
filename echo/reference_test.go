package echo_test

import (
	"math/rand"
	"slices"
	"testing"

	"bellpull/api"
	"bellpull/echo"
	"bellpull/probe"
)

// The references below follow the definitions of the chapter word by word, and
// share no code with the package.

// runLengths are those of the maximal parts of equal numbers.
func runLengths(word []int) []int {
	var runs []int
	for from := range word {
		if from > 0 && word[from-1] == word[from] {
			continue
		}
		to := from + 1
		for to < len(word) && word[to] == word[from] {
			to++
		}
		runs = append(runs, to-from)
	}
	return runs
}

// derivative is that of a word of 1 and 2; false says that a run is longer than 2.
func derivative(word []int) ([]int, bool) {
	runs := runLengths(word)
	if slices.ContainsFunc(runs, func(n int) bool { return n > 2 }) {
		return nil, false
	}
	var kept []int
	for i, length := range runs {
		atEnd := i == 0 || i == len(runs)-1
		if !atEnd || length != 1 {
			kept = append(kept, length)
		}
	}
	return kept, true
}

// heightOf counts the derivatives until the empty word; false says that the word is not smooth.
func heightOf(word []int) (int, bool) {
	if len(word) == 0 {
		return 0, true
	}
	next, ok := derivative(word)
	if !ok {
		return 0, false
	}
	steps, ok := heightOf(next)
	if !ok {
		return 0, false
	}
	return steps + 1, true
}

func isSmooth(word []int) bool {
	_, ok := heightOf(word)
	return ok
}

// smoothOnes are the smooth words of n letters, found among all words.
func smoothOnes(n int) [][]int {
	var words [][]int
	for word := range probe.Lists(n, 1, 2) {
		if isSmooth(word) {
			words = append(words, word)
		}
	}
	return words
}

// randomWord has n letters from 1 to high.
func randomWord(random *rand.Rand, n, high int) []int {
	word := make([]int, n)
	for i := range word {
		word[i] = 1 + random.Intn(high)
	}
	return word
}

// randomSmooth is a smooth word of n letters, which are added one by one.
func randomSmooth(t *testing.T, random *rand.Rand, n int) []int {
	t.Helper()
	word := []int{}
	for len(word) < n {
		next, e := echo.Extend(word)
		if e != api.OK || len(next) == 0 {
			t.Fatalf("Extend(%v) = %v, %d", word, next, e)
		}
		word = append(word, next[random.Intn(len(next))])
	}
	return word
}

func exchanged(word []int) []int {
	other := make([]int, len(word))
	for i, letter := range word {
		other[i] = 3 - letter
	}
	return other
}

func reversed(word []int) []int {
	other := slices.Clone(word)
	slices.Reverse(other)
	return other
}

// refused checks that a call returned this error and otherwise nothing.
func refused(t *testing.T, call string, got []int, e, want api.Errno) {
	t.Helper()
	if e != want || len(got) != 0 {
		t.Errorf("%s = %v, %d, want the error %d", call, got, e, want)
	}
}
