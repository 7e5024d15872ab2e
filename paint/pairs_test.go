package paint_test

import (
	"fmt"
	"math/rand"
	"slices"
	"testing"

	"bellpull/api"
	"bellpull/paint"
	"bellpull/probe"
)

func checkClique(t *testing.T, n int, colors []int) {
	t.Helper()
	for color := range 2 {
		for k := 1; k <= api.MaxClique; k++ {
			got, e := paint.Clique(n, colors, color, k)
			want := leastClique(n, colors, color, k)
			check(t, fmt.Sprintf("Clique(%d, %v, %d, %d)", n, colors, color, k), got, e, want, want != nil)
		}
	}
}

// Clique, A7 and P3: what is found is the least that is there.
func TestCliqueOfAllSmallColorings(t *testing.T) {
	for n := 1; n <= 5; n++ {
		for colors := range probe.Lists(n*(n-1)/2, 0, 1) {
			checkClique(t, n, colors)
		}
	}
}

func TestCliqueOfLargerColorings(t *testing.T) {
	random := rand.New(rand.NewSource(1))
	for range 2000 {
		n := 6 + random.Intn(3)
		ones := random.Float64()
		colors := make([]int, n*(n-1)/2)
		for i := range colors {
			if random.Float64() < ones {
				colors[i] = 1
			}
		}
		checkClique(t, n, colors)
	}
}

func TestCliqueEdges(t *testing.T) {
	for _, none := range [][]int{nil, {}} {
		for color := range 2 {
			got, e := paint.Clique(1, none, color, 1)
			check(t, "Clique of one vertex", got, e, []int{0}, true)
			got, e = paint.Clique(1, none, color, 2)
			check(t, "Clique of one vertex", got, e, nil, false)
		}
	}
	got, e := paint.Clique(8, repeated(1, 28), 1, 4)
	check(t, "Clique of one colour", got, e, []int{0, 1, 2, 3}, true)
	got, e = paint.Clique(8, repeated(1, 28), 0, 2)
	check(t, "Clique of the other colour", got, e, nil, false)
	got, e = paint.Clique(3, []int{0, 0, 0}, 0, 4)
	check(t, "Clique with more vertices than there are", got, e, nil, false)
	last := repeated(0, 28)
	last[27] = 1
	got, e = paint.Clique(8, last, 1, 2)
	check(t, "Clique of the last pair", got, e, []int{6, 7}, true)
}

func TestCliqueErrors(t *testing.T) {
	good := []int{0, 1, 0}
	bad := []int{0, 2, 0}
	// A colouring that is malformed as well does not change that it is ErrArg.
	for _, colors := range [][]int{nil, good, bad} {
		for _, n := range probe.Outside(1, api.MaxDots) {
			got, e := paint.Clique(n, colors, 0, 3)
			refused(t, "Clique, number of vertices", got, e, api.ErrArg)
		}
		for _, color := range append(probe.Outside(0, 1), 2, 3) {
			got, e := paint.Clique(3, colors, color, 3)
			refused(t, "Clique, colour", got, e, api.ErrArg)
		}
		for _, k := range probe.Outside(1, api.MaxClique) {
			got, e := paint.Clique(3, colors, 0, k)
			refused(t, "Clique, k", got, e, api.ErrArg)
		}
	}
	for size := range 40 {
		if size != 3 {
			got, e := paint.Clique(3, make([]int, size), 0, 1)
			refused(t, "Clique, number of colours", got, e, api.ErrForm)
		}
	}
	for i := range 28 {
		for _, color := range append(probe.Outside(0, 1), 2) {
			colors := make([]int, 28)
			colors[i] = color
			got, e := paint.Clique(8, colors, 0, 1)
			refused(t, "Clique, a colour of a pair", got, e, api.ErrForm)
		}
	}
	got, e := paint.Clique(1, []int{0}, 0, 1)
	refused(t, "Clique, a colour too many", got, e, api.ErrForm)
	got, e = paint.Clique(2, nil, 0, 1)
	refused(t, "Clique, no colour", got, e, api.ErrForm)
}

// Avoid, A1 and P3, for all arguments.
func TestAvoidEverywhere(t *testing.T) {
	for n := 1; n <= api.MaxDots; n++ {
		for k := 2; k <= api.MaxClique; k++ {
			for l := 2; l <= api.MaxClique; l++ {
				got, e := paint.Avoid(n, k, l)
				want, ok := leastWithout(n*(n-1)/2, 2, hasClique(n, k, l))
				check(t, fmt.Sprintf("Avoid(%d, %d, %d)", n, k, l), got, e, want, ok)
				if e == api.OK {
					checkAvoided(t, n, k, l, got)
				}
			}
		}
	}
}

func checkAvoided(t *testing.T, n, k, l int, colors []int) {
	t.Helper()
	if len(colors) != n*(n-1)/2 {
		t.Fatalf("Avoid(%d, %d, %d) has %d colours", n, k, l, len(colors))
	}
	for color, size := range []int{k, l} {
		if leastClique(n, colors, color, size) != nil {
			t.Errorf("Avoid(%d, %d, %d) = %v has a clique of colour %d", n, k, l, colors, color)
		}
		if c, e := paint.Clique(n, colors, color, size); e != api.ErrNone {
			t.Errorf("Avoid(%d, %d, %d) = %v: Clique finds %v, %d", n, k, l, colors, c, e)
		}
	}
}

// The reference itself is right: no colouring before the least one is free.
func TestAvoidAmongAllColorings(t *testing.T) {
	for n := 1; n <= 5; n++ {
		for k := 2; k <= api.MaxClique; k++ {
			for l := 2; l <= api.MaxClique; l++ {
				var want []int
				for colors := range probe.Lists(n*(n-1)/2, 0, 1) {
					if leastClique(n, colors, 0, k) == nil && leastClique(n, colors, 1, l) == nil {
						want = colors
						break
					}
				}
				got, e := paint.Avoid(n, k, l)
				check(t, fmt.Sprintf("Avoid(%d, %d, %d)", n, k, l), got, e, want, want != nil)
			}
		}
	}
}

// A2 and example 1.
func TestAvoidRamsey(t *testing.T) {
	for n := 1; n <= api.MaxDots; n++ {
		if _, e := paint.Avoid(n, 3, 3); (e == api.ErrNone) != (n >= 6) {
			t.Errorf("Avoid(%d, 3, 3): %d", n, e)
		}
		for l := 2; l <= api.MaxClique; l++ {
			if _, e := paint.Avoid(n, 2, l); (e == api.ErrNone) != (n >= l) {
				t.Errorf("Avoid(%d, 2, %d): %d", n, l, e)
			}
		}
	}
	if _, e := paint.Avoid(8, 3, 4); e != api.OK {
		t.Errorf("Avoid(8, 3, 4): %d", e)
	}
	got, e := paint.Avoid(5, 3, 3)
	check(t, "Avoid(5, 3, 3)", got, e, []int{0, 0, 1, 1, 1, 0, 1, 1, 0, 0}, true)
	got, e = paint.Clique(3, []int{0, 0, 0}, 0, 3)
	check(t, "Clique(3, [0 0 0], 0, 3)", got, e, []int{0, 1, 2}, true)
}

// A3: the pairs of the first vertices are still free, and so there is a colouring for fewer.
func TestAvoidFewer(t *testing.T) {
	for n := 2; n <= api.MaxDots; n++ {
		for k := 2; k <= api.MaxClique; k++ {
			for l := 2; l <= api.MaxClique; l++ {
				colors, e := paint.Avoid(n, k, l)
				if e != api.OK {
					continue
				}
				table := pairColors(n, colors)
				var fewer []int
				for a := 0; a < n-1; a++ {
					for b := a + 1; b < n-1; b++ {
						fewer = append(fewer, table[[2]int{a, b}])
					}
				}
				checkAvoided(t, n-1, k, l, fewer)
				if _, e := paint.Avoid(n-1, k, l); e != api.OK {
					t.Errorf("Avoid(%d, %d, %d): %d, but there is one for %d", n-1, k, l, e, n)
				}
			}
		}
	}
}

func TestAvoidErrors(t *testing.T) {
	for _, n := range probe.Outside(1, api.MaxDots) {
		got, e := paint.Avoid(n, 3, 3)
		refused(t, "Avoid, number of vertices", got, e, api.ErrArg)
	}
	for _, k := range probe.Outside(2, api.MaxClique) {
		for _, n := range []int{1, 5, 6, 8} {
			got, e := paint.Avoid(n, k, 3)
			refused(t, "Avoid, k", got, e, api.ErrArg)
			got, e = paint.Avoid(n, 3, k)
			refused(t, "Avoid, l", got, e, api.ErrArg)
			got, e = paint.Avoid(n, 2, k)
			refused(t, "Avoid, l", got, e, api.ErrArg)
		}
	}
}

// Count, P1 and A6, for all arguments.
func TestCountEverywhere(t *testing.T) {
	for n := 1; n <= 5; n++ {
		for k := 2; k <= api.MaxClique; k++ {
			for l := 2; l <= api.MaxClique; l++ {
				want := 0
				for colors := range probe.Lists(n*(n-1)/2, 0, 1) {
					if leastClique(n, colors, 0, k) == nil && leastClique(n, colors, 1, l) == nil {
						want++
					}
				}
				if got, e := paint.Count(n, k, l); e != api.OK || got != want {
					t.Errorf("Count(%d, %d, %d) = %d, %d, want %d", n, k, l, got, e, want)
				}
				one, _ := paint.Count(n, k, l)
				other, _ := paint.Count(n, l, k)
				if one != other {
					t.Errorf("Count(%d, %d, %d) = %d, exchanged %d", n, k, l, one, other)
				}
			}
		}
	}
}

func TestCountKnown(t *testing.T) {
	for _, x := range [][4]int{{1, 2, 2, 1}, {2, 2, 2, 0}, {2, 3, 3, 2}, {3, 3, 3, 6}, {4, 3, 3, 18}, {5, 3, 3, 12}, {5, 2, 3, 0}, {3, 2, 4, 1}} {
		if got, e := paint.Count(x[0], x[1], x[2]); e != api.OK || got != x[3] {
			t.Errorf("Count(%d, %d, %d) = %d, %d, want %d", x[0], x[1], x[2], got, e, x[3])
		}
	}
}

func TestCountErrors(t *testing.T) {
	fail := func(n, k, l int) {
		t.Helper()
		if got, e := paint.Count(n, k, l); e != api.ErrArg || got != 0 {
			t.Errorf("Count(%d, %d, %d) = %d, %d, want ErrArg", n, k, l, got, e)
		}
	}
	for _, n := range append(probe.Outside(1, 5), 7, 8) {
		fail(n, 3, 3)
	}
	for _, k := range probe.Outside(2, api.MaxClique) {
		for n := 1; n <= 5; n++ {
			fail(n, k, 3)
			fail(n, 3, k)
		}
	}
}

// A6: exchanging the colours exchanges the cliques.
func TestCliqueExchanged(t *testing.T) {
	for colors := range probe.Lists(6, 0, 1) {
		other := slices.Clone(colors)
		for i, c := range colors {
			other[i] = 1 - c
		}
		for k := 1; k <= api.MaxClique; k++ {
			one, e := paint.Clique(4, colors, 0, k)
			two, f := paint.Clique(4, other, 1, k)
			if e != f || !slices.Equal(one, two) {
				t.Errorf("Clique of %v, %d: %v, exchanged %v", colors, k, one, two)
			}
		}
	}
}
