package echo_test

import (
	"fmt"
	"slices"
	"testing"

	"bellpull/api"
	"bellpull/echo"
	"bellpull/probe"
)

func kolakoskiOf(t *testing.T, a, b, n int) []int {
	t.Helper()
	terms, e := echo.Kolakoski(a, b, n)
	if e != api.OK || len(terms) != n {
		t.Fatalf("Kolakoski(%d, %d, %d) = %d terms, %d", a, b, n, len(terms), e)
	}
	return terms
}

func golombOf(t *testing.T, n int) []int {
	t.Helper()
	terms, e := echo.Golomb(n)
	if e != api.OK || len(terms) != n {
		t.Fatalf("Golomb(%d) = %d terms, %d", n, len(terms), e)
	}
	return terms
}

// countedRuns are the run lengths of a sequence of any length.
func countedRuns(terms []int) []int {
	var runs []int
	last := 0
	for _, term := range terms {
		if term != last {
			runs = append(runs, 0)
		}
		runs[len(runs)-1]++
		last = term
	}
	return runs
}

// checkKolakoski checks all that makes the sequence what it is: runs of a and b
// in turn, from a on, whose lengths are the terms; the last run may be cut off.
func checkKolakoski(t *testing.T, a, b int, terms []int) {
	t.Helper()
	if len(terms) == 0 {
		return
	}
	if terms[0] != a {
		t.Fatalf("Kolakoski(%d, %d) begins with %d", a, b, terms[0])
	}
	for i, term := range terms {
		if term != a && term != b {
			t.Fatalf("Kolakoski(%d, %d) has %d at %d", a, b, term, i)
		}
	}
	runs := countedRuns(terms)
	last := len(runs) - 1
	if !slices.Equal(runs[:last], terms[:last]) {
		t.Fatalf("Kolakoski(%d, %d, %d) is not the sequence of its run lengths", a, b, len(terms))
	}
	if runs[last] > terms[last] {
		t.Fatalf("Kolakoski(%d, %d, %d) ends with a run of %d, longer than %d", a, b, len(terms), runs[last], terms[last])
	}
}

// Kolakoski, B1 and P1: the sequence for all numbers and for all beginnings of some length.
func TestKolakoski(t *testing.T) {
	for a := 1; a <= 9; a++ {
		for b := 1; b <= 9; b++ {
			if a == b {
				continue
			}
			whole := kolakoskiOf(t, a, b, 3000)
			checkKolakoski(t, a, b, whole)
			for n := range 120 {
				terms := kolakoskiOf(t, a, b, n)
				checkKolakoski(t, a, b, terms)
				if !slices.Equal(terms, whole[:n]) {
					t.Fatalf("Kolakoski(%d, %d, %d) = %v is no beginning of the longer one", a, b, n, terms)
				}
			}
		}
	}
}

func TestKolakoskiToTheLimit(t *testing.T) {
	for _, p := range []api.Pair{{A: 1, B: 2}, {A: 2, B: 1}, {A: 1, B: 9}, {A: 9, B: 1}, {A: 8, B: 9}} {
		whole := kolakoskiOf(t, p.A, p.B, api.MaxTerms)
		checkKolakoski(t, p.A, p.B, whole)
		for _, n := range []int{9999, 50000, api.MaxTerms - 1} {
			if !slices.Equal(kolakoskiOf(t, p.A, p.B, n), whole[:n]) {
				t.Errorf("Kolakoski(%d, %d, %d) is no beginning of the longer one", p.A, p.B, n)
			}
		}
	}
}

// Examples 1, and 2 of the document.
func TestSequencesOfTheDocument(t *testing.T) {
	if got := kolakoskiOf(t, 1, 2, 10); !slices.Equal(got, []int{1, 2, 2, 1, 1, 2, 1, 2, 2, 1}) {
		t.Errorf("Kolakoski(1, 2, 10) = %v", got)
	}
	if got := kolakoskiOf(t, 1, 3, 13); !slices.Equal(got, []int{1, 3, 3, 3, 1, 1, 1, 3, 3, 3, 1, 3, 1}) {
		t.Errorf("Kolakoski(1, 3, 13) = %v", got)
	}
	if got := kolakoskiOf(t, 2, 1, 9); !slices.Equal(got, []int{2, 2, 1, 1, 2, 1, 2, 2, 1}) {
		t.Errorf("Kolakoski(2, 1, 9) = %v", got)
	}
	if got := golombOf(t, 9); !slices.Equal(got, []int{1, 2, 2, 3, 3, 4, 4, 4, 5}) {
		t.Errorf("Golomb(9) = %v", got)
	}
	if got, e := echo.Ones(10); got != 5 || e != api.OK {
		t.Errorf("Ones(10) = %d, %d", got, e)
	}
}

// checkGolomb checks all that makes the sequence what it is: it begins with 1,
// never decreases and leaves out no number, and each number occurs as often as
// its term says; the last number may be cut off.
func checkGolomb(t *testing.T, terms []int) {
	t.Helper()
	n := len(terms)
	if n == 0 {
		return
	}
	if terms[0] != 1 {
		t.Fatalf("Golomb(%d) begins with %d", n, terms[0])
	}
	times := map[int]int{}
	for i, term := range terms {
		times[term]++
		if i > 0 && term != terms[i-1] && term != terms[i-1]+1 {
			t.Fatalf("Golomb(%d) goes on from %d with %d", n, terms[i-1], term)
		}
	}
	last := terms[n-1]
	for k := 1; k < last; k++ {
		if times[k] != terms[k-1] {
			t.Fatalf("Golomb(%d) has %d %d times, but the term %d", n, k, times[k], terms[k-1])
		}
	}
	if times[last] > terms[last-1] {
		t.Fatalf("Golomb(%d) has %d %d times, more than %d", n, last, times[last], terms[last-1])
	}
}

// Golomb, B2 and P1.
func TestGolomb(t *testing.T) {
	whole := golombOf(t, api.MaxTerms)
	checkGolomb(t, whole)
	g := func(n int) int { return whole[n-1] }
	for n := 1; n < api.MaxTerms; n++ {
		if g(n+1) != 1+g(n+1-g(g(n))) {
			t.Fatalf("g(%d) = %d", n+1, g(n+1))
		}
	}
	lengths := []int{9999, 50000, api.MaxTerms - 1}
	for n := range 500 {
		lengths = append(lengths, n)
	}
	for _, n := range lengths {
		terms := golombOf(t, n)
		checkGolomb(t, terms)
		if !slices.Equal(terms, whole[:n]) {
			t.Fatalf("Golomb(%d) is no beginning of the longer one", n)
		}
	}
}

// Ones, B8 and P1.
func TestOnes(t *testing.T) {
	terms := kolakoskiOf(t, 1, 2, api.MaxTerms)
	ones := 0
	for n := range api.MaxTerms + 1 {
		if n > 0 && terms[n-1] == 1 {
			ones++
		}
		if n > 1500 && n < api.MaxTerms-3 && n%4999 != 0 {
			continue
		}
		if got, e := echo.Ones(n); got != ones || e != api.OK {
			t.Fatalf("Ones(%d) = %d, %d, want %d", n, got, e, ones)
		}
	}
}

// Kolakoski, Golomb and Ones refuse what is out of its range.
func TestSequencesRefuse(t *testing.T) {
	for _, x := range probe.Outside(1, 9) {
		got, e := echo.Kolakoski(x, 2, 5)
		refused(t, fmt.Sprintf("Kolakoski(%d, 2, 5)", x), got, e, api.ErrArg)
		got, e = echo.Kolakoski(2, x, 5)
		refused(t, fmt.Sprintf("Kolakoski(2, %d, 5)", x), got, e, api.ErrArg)
		got, e = echo.Kolakoski(x, x, 0)
		refused(t, fmt.Sprintf("Kolakoski(%d, %d, 0)", x, x), got, e, api.ErrArg)
	}
	for x := 1; x <= 9; x++ {
		for _, n := range []int{0, 1, 7, api.MaxTerms} {
			got, e := echo.Kolakoski(x, x, n)
			refused(t, fmt.Sprintf("Kolakoski(%d, %d, %d)", x, x, n), got, e, api.ErrArg)
		}
	}
	for _, n := range probe.Outside(0, api.MaxTerms) {
		got, e := echo.Kolakoski(1, 2, n)
		refused(t, fmt.Sprintf("Kolakoski(1, 2, %d)", n), got, e, api.ErrArg)
		got, e = echo.Golomb(n)
		refused(t, fmt.Sprintf("Golomb(%d)", n), got, e, api.ErrArg)
		if ones, e := echo.Ones(n); ones != 0 || e != api.ErrArg {
			t.Errorf("Ones(%d) = %d, %d", n, ones, e)
		}
	}
}
