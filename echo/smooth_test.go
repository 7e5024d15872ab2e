package echo_test

import (
	"fmt"
	"math"
	"math/rand"
	"slices"
	"testing"

	"bellpull/api"
	"bellpull/echo"
	"bellpull/probe"
)

// checkRuns compares Runs with its definition, B7.
func checkRuns(t *testing.T, word []int) {
	t.Helper()
	got, e := echo.Runs(word)
	if e != api.OK || !slices.Equal(got, runLengths(word)) {
		t.Fatalf("Runs(%v) = %v, %d, want %v", word, got, e, runLengths(word))
	}
	sum := 0
	for _, length := range got {
		sum += length
	}
	if sum != len(word) {
		t.Fatalf("Runs(%v) = %v have the sum %d", word, got, sum)
	}
}

func TestRuns(t *testing.T) {
	for n := range 13 {
		for word := range probe.Lists(n, 1, 2) {
			checkRuns(t, word)
		}
	}
	for n := range 7 {
		for word := range probe.Lists(n, 1, 4) {
			checkRuns(t, word)
		}
	}
	random := rand.New(rand.NewSource(1))
	for range 2000 {
		checkRuns(t, randomWord(random, random.Intn(api.MaxWord+1), 1+random.Intn(9)))
	}
	for letter := 1; letter <= 9; letter++ {
		checkRuns(t, slices.Repeat([]int{letter}, api.MaxWord))
	}
}

// checkWord compares Derivative, Smooth and Height with their definitions; with B4.
func checkWord(t *testing.T, word []int) {
	t.Helper()
	got, e := echo.Derivative(word)
	if want, ok := derivative(word); ok && (e != api.OK || !slices.Equal(got, want)) {
		t.Fatalf("Derivative(%v) = %v, %d, want %v", word, got, e, want)
	} else if !ok && (e != api.ErrNone || len(got) != 0) {
		t.Fatalf("Derivative(%v) = %v, %d, want ErrNone", word, got, e)
	}
	smooth, e := echo.Smooth(word)
	want, ok := heightOf(word)
	if smooth != ok || e != api.OK {
		t.Fatalf("Smooth(%v) = %t, %d, want %t", word, smooth, e, ok)
	}
	steps, e := echo.Height(word)
	if ok && (e != api.OK || steps != want) || !ok && (e != api.ErrNone || steps != 0) {
		t.Fatalf("Height(%v) = %d, %d, want %d, %t", word, steps, e, want, ok)
	}
	if !ok {
		return
	}
	if next, e := echo.Smooth(got); !next || e != api.OK {
		t.Fatalf("the derivative %v of the smooth word %v is not smooth", got, word)
	}
	if len(word) > 0 && len(got) >= len(word) {
		t.Fatalf("the derivative %v of the smooth word %v is not shorter", got, word)
	}
}

func TestDerivativesOfAllSmallWords(t *testing.T) {
	for n := range 15 {
		for word := range probe.Lists(n, 1, 2) {
			checkWord(t, word)
		}
	}
}

// withRuns is a word of at most n letters with random runs of 1 and 2 letters.
func withRuns(random *rand.Rand, n int) []int {
	var word []int
	letter := 1 + random.Intn(2)
	for {
		length := 1 + random.Intn(2)
		if len(word)+length > n {
			return word
		}
		word = append(word, slices.Repeat([]int{letter}, length)...)
		letter = 3 - letter
	}
}

func TestDerivativesOfLargerWords(t *testing.T) {
	random := rand.New(rand.NewSource(3))
	for range 3000 {
		checkWord(t, withRuns(random, random.Intn(api.MaxWord+1)))
		checkWord(t, randomWord(random, random.Intn(api.MaxWord+1), 2))
	}
	for range 30 {
		checkWord(t, randomSmooth(t, random, random.Intn(api.MaxWord+1)))
	}
	// Those of the longest word with the most runs, with the fewest that are allowed, and with one.
	checkWord(t, slices.Repeat([]int{1, 2}, api.MaxWord/2))
	checkWord(t, slices.Repeat([]int{2, 2, 1, 1}, api.MaxWord/4))
	checkWord(t, slices.Repeat([]int{1}, api.MaxWord))
}

// Examples 2 and 3, and words whose ends matter.
func TestWordsOfTheDocument(t *testing.T) {
	derivatives := []struct{ word, want []int }{
		{[]int{1, 2, 2, 1}, []int{2}},
		{[]int{2}, nil},
		{nil, nil},
		{[]int{1, 1}, []int{2}},
		{[]int{1, 2}, nil},
		{[]int{1, 2, 1}, []int{1}},
		{[]int{2, 2, 1}, []int{2}},
		{[]int{2, 1, 1, 2, 2}, []int{2, 2}},
	}
	for _, c := range derivatives {
		if got, e := echo.Derivative(c.word); e != api.OK || !slices.Equal(got, c.want) {
			t.Errorf("Derivative(%v) = %v, %d", c.word, got, e)
		}
	}
	if got, e := echo.Smooth([]int{1, 2, 1, 2, 1}); got || e != api.OK {
		t.Errorf("Smooth([1 2 1 2 1]) = %t, %d", got, e)
	}
	for word, want := range map[string]int{"": 0, "\x01": 1, "\x01\x02": 1, "\x01\x02\x01": 2, "\x01\x02\x02\x01": 2, "\x02\x02": 2} {
		if got, e := echo.Height(lettersOf(word)); got != want || e != api.OK {
			t.Errorf("Height(%q) = %d, %d, want %d", word, got, e, want)
		}
	}
}

func lettersOf(text string) []int {
	var word []int
	for _, b := range []byte(text) {
		word = append(word, int(b))
	}
	return word
}

// Smooth, B3: parts, the reversed and the exchanged word.
func checkRelatives(t *testing.T, word []int) {
	t.Helper()
	relatives := [][]int{reversed(word), exchanged(word)}
	for from := range word {
		relatives = append(relatives, word[:from], word[from:])
	}
	for _, other := range relatives {
		if ok, e := echo.Smooth(other); !ok || e != api.OK {
			t.Fatalf("Smooth(%v) = %t, %d, but %v is smooth", other, ok, e, word)
		}
	}
}

func TestRelativesOfSmoothWords(t *testing.T) {
	for n := range 15 {
		for _, word := range smoothOnes(n) {
			checkRelatives(t, word)
		}
	}
	random := rand.New(rand.NewSource(4))
	for range 15 {
		checkRelatives(t, randomSmooth(t, random, api.MaxWord))
	}
	terms := kolakoskiOf(t, 1, 2, 3000)
	for range 1500 {
		from := random.Intn(len(terms) - api.MaxWord)
		part := terms[from : from+1+random.Intn(api.MaxWord)]
		if ok, e := echo.Smooth(part); !ok || e != api.OK {
			t.Fatalf("Smooth(%v) = %t, %d, but it is a part of Kolakoski's sequence", part, ok, e)
		}
	}
}

// Count and Words, B5 and P1, for all their arguments.
func TestSmoothWordsOfAllLengths(t *testing.T) {
	small := []int{1, 2, 4, 6, 10, 14, 18}
	for n := range api.MaxSmooth + 1 {
		want := smoothOnes(n)
		if n < len(small) && len(want) != small[n] {
			t.Fatalf("the reference finds %d words of %d letters", len(want), n)
		}
		if got, e := echo.Count(n); got != len(want) || e != api.OK {
			t.Errorf("Count(%d) = %d, %d, want %d", n, got, e, len(want))
		}
		if n > 10 {
			continue
		}
		if got, e := echo.Words(n); e != api.OK || !slices.EqualFunc(got, want, slices.Equal) {
			t.Errorf("Words(%d) = %v, %d, want %v", n, got, e, want)
		}
	}
}

func TestCountAndWordsRefuse(t *testing.T) {
	for _, n := range probe.Outside(0, api.MaxSmooth) {
		if got, e := echo.Count(n); got != 0 || e != api.ErrArg {
			t.Errorf("Count(%d) = %d, %d", n, got, e)
		}
	}
	for _, n := range append(probe.Outside(0, 10), api.MaxSmooth) {
		if got, e := echo.Words(n); len(got) != 0 || e != api.ErrArg {
			t.Errorf("Words(%d) = %v, %d", n, got, e)
		}
	}
}

// Extend, B6, for a word that need not be smooth.
func checkExtend(t *testing.T, word []int) {
	t.Helper()
	var want []int
	for letter := 1; letter <= 2; letter++ {
		if isSmooth(append(slices.Clone(word), letter)) {
			want = append(want, letter)
		}
	}
	got, e := echo.Extend(word)
	if e != api.OK || !slices.Equal(got, want) {
		t.Fatalf("Extend(%v) = %v, %d, want %v", word, got, e, want)
	}
	if isSmooth(word) && len(got) == 0 {
		t.Fatalf("Extend(%v) = %v, but it is smooth", word, got)
	}
}

func TestExtend(t *testing.T) {
	for n := range 14 {
		for word := range probe.Lists(n, 1, 2) {
			checkExtend(t, word)
		}
	}
	random := rand.New(rand.NewSource(5))
	for range 10 {
		whole := randomSmooth(t, random, api.MaxWord)
		for _, n := range []int{20, 77, 150, api.MaxWord - 1} {
			checkExtend(t, whole[:n])
		}
	}
	checkExtend(t, randomWord(random, api.MaxWord-1, 2))
}

// What is too long is refused first, then what is malformed, then a run that is too long.
func TestWordsRefuse(t *testing.T) {
	type call struct {
		name string
		of   func([]int) ([]int, api.Errno)
		high int // the greatest letter
		most int // the most letters
	}
	calls := []call{
		{"Runs", echo.Runs, 9, api.MaxWord},
		{"Derivative", echo.Derivative, 2, api.MaxWord},
		{"Smooth", smoothAsList, 2, api.MaxWord},
		{"Height", heightAsList, 2, api.MaxWord},
		{"Extend", echo.Extend, 2, api.MaxWord - 1},
	}
	for _, c := range calls {
		for _, n := range []int{c.most + 1, c.most + 2, 5000} {
			for _, letter := range []int{1, 2, 0, 10, math.MinInt} {
				got, e := c.of(slices.Repeat([]int{letter}, n))
				refused(t, fmt.Sprintf("%s of %d times %d", c.name, n, letter), got, e, api.ErrLong)
			}
		}
		for _, letter := range append(probe.Outside(1, c.high), 10, 11, 256+1) {
			for _, word := range [][]int{{letter}, {1, 2, letter}, {letter, 1, 1, 1, 1}, append(slices.Repeat([]int{1}, c.most-1), letter)} {
				got, e := c.of(word)
				refused(t, fmt.Sprintf("%s(%v)", c.name, word), got, e, api.ErrForm)
			}
		}
	}
	for _, word := range [][]int{{1, 1, 1}, {2, 2, 2}, {1, 2, 2, 2, 1}, {2, 1, 1, 2, 2, 2}, slices.Repeat([]int{2}, api.MaxWord)} {
		got, e := echo.Derivative(word)
		refused(t, fmt.Sprintf("Derivative(%v)", word), got, e, api.ErrNone)
	}
}

// smoothAsList and heightAsList return an empty list for false and for 0.
func smoothAsList(word []int) ([]int, api.Errno) {
	smooth, e := echo.Smooth(word)
	if !smooth {
		return nil, e
	}
	return []int{1}, e
}

func heightAsList(word []int) ([]int, api.Errno) {
	steps, e := echo.Height(word)
	return make([]int, steps), e
}
