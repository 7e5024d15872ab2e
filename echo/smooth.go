package echo

import (
	"slices"
	"strconv"
)

// lengths returns the run lengths of a word.
func lengths(word []int) []int {
	var runs []int
	for i, letter := range word {
		if i == 0 || letter != word[i-1] {
			runs = append(runs, 0)
		}
		runs[len(runs)-1]++
	}
	return runs
}

// derived returns the derivative of a word, and whether it has one.
func derived(word []int) ([]int, bool) {
	runs := lengths(word)
	for _, length := range runs {
		if length > maxRun {
			return nil, false
		}
	}
	return trimmed(runs), true
}

// trimmed leaves out a 1 at either end of run lengths: a longer word may
// continue that run, so its length says nothing yet.
func trimmed(runs []int) []int {
	if len(runs) > 0 && runs[0] == 1 {
		runs = runs[1:]
	}
	if last := len(runs) - 1; last >= 0 && runs[last] == 1 {
		runs = runs[:last]
	}
	return runs
}

// height returns the number of derivatives until the empty word is reached, and
// whether it is. It ends because each derivative is shorter: a word that has as
// many runs as letters has a run length 1 at its end, which is left out.
func height(word []int) (int, bool) {
	steps := 0
	for len(word) > 0 {
		next, ok := derived(word)
		if !ok {
			return 0, false
		}
		word = next
		steps++
	}
	return steps, true
}

// following returns the letters that can be written after a word such that it is smooth.
func following(word []int) []int {
	var next []int
	for letter := 1; letter <= maxRun; letter++ {
		if _, ok := height(append(slices.Clone(word), letter)); ok {
			next = append(next, letter)
		}
	}
	return next
}

// smoothWords returns the set of the smooth words of n letters, as texts of
// digits. As every part of a smooth word is smooth, each word of the set is one
// with a letter less that is continued.
func smoothWords(n int) map[string]bool {
	words := map[string]bool{"": true}
	for range n {
		longer := map[string]bool{}
		for text := range words {
			for _, letter := range following(letters(text)) {
				longer[text+strconv.Itoa(letter)] = true
			}
		}
		words = longer
	}
	return words
}

// letters returns the numbers that the digits of a text stand for.
func letters(text string) []int {
	word := make([]int, len(text))
	for i := range len(text) {
		word[i] = int(text[i] - '0')
	}
	return word
}
