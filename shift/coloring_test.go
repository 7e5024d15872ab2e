package shift_test

import (
	"math/rand"
	"slices"
	"testing"

	"bellpull/api"
	"bellpull/probe"
	"bellpull/shift"
)

// checkList compares all functions but Proper with their definitions, and
// checks C1 to C4 and C8, which follow from them.
func checkList(t *testing.T, spans []api.Span) {
	t.Helper()
	d := depthOf(spans)
	if got := depth(t, spans); got != d {
		t.Fatalf("Depth(%v) = %d, want %d", spans, got, d)
	}
	fit := coloringOf(t, shift.Fit, spans)
	if want := firstFit(spans, asListed(spans)); !slices.Equal(fit, want) {
		t.Fatalf("Fit(%v) = %v, want %v", spans, fit, want)
	}
	levels := coloringOf(t, shift.Levels, spans)
	if want := levelsOf(spans); !slices.Equal(levels, want) {
		t.Fatalf("Levels(%v) = %v, want %v", spans, levels, want)
	}
	trotter := coloringOf(t, shift.Trotter, spans)
	if want := byLevels(t, spans); !slices.Equal(trotter, want) {
		t.Fatalf("Trotter(%v) = %v, want %v", spans, trotter, want)
	}
	best := coloringOf(t, shift.Best, spans)
	if want := firstFit(spans, byFrom(spans)); !slices.Equal(best, want) {
		t.Fatalf("Best(%v) = %v, want %v", spans, best, want)
	}
	checkColorings(t, spans, fit, trotter, best)
	checkLevels(t, spans, levels)
	if len(spans) > 0 {
		checkDeepest(t, spans)
	}
}

// numbersOf counts the different numbers of a colouring.
func numbersOf(colors []int) int {
	different := map[int]bool{}
	for _, color := range colors {
		different[color] = true
	}
	return len(different)
}

// C1, C2 (the first part), C3 and C4.
func checkColorings(t *testing.T, spans []api.Span, fit, trotter, best []int) {
	t.Helper()
	for name, colors := range map[string][]int{"Fit": fit, "Trotter": trotter, "Best": best} {
		if !isProper(spans, colors) || slices.ContainsFunc(colors, func(c int) bool { return c < 0 }) {
			t.Fatalf("%s(%v) = %v is not proper", name, spans, colors)
		}
		if ok, e := shift.Proper(spans, colors); !ok || e != api.OK {
			t.Fatalf("Proper(%v, %v) = %t, %d", spans, colors, ok, e)
		}
	}
	d := depth(t, spans)
	if n := numbersOf(best); n != d {
		t.Fatalf("Best(%v) = %v uses %d numbers, the depth is %d", spans, best, n, d)
	}
	for _, color := range trotter {
		if color >= 3*d-2 {
			t.Fatalf("Trotter(%v) = %v, the depth is %d", spans, trotter, d)
		}
	}
	if n := numbersOf(fit); n > 8*d {
		t.Fatalf("Fit(%v) = %v uses %d numbers, the depth is %d", spans, fit, n, d)
	}
}

// C3, what it says of levels.
func checkLevels(t *testing.T, spans []api.Span, levels []int) {
	t.Helper()
	d := depth(t, spans)
	for i, k := range levels {
		if k < 1 || k > d {
			t.Fatalf("Levels(%v) = %v, the depth is %d", spans, levels, d)
		}
		others := 0
		for j := range spans {
			if j != i && levels[j] == k && overlap(spans[i], spans[j]) {
				others++
			}
		}
		if others > 2 || k == 1 && others > 0 {
			t.Fatalf("Levels(%v) = %v: span %d overlaps %d others of its level", spans, levels, i, others)
		}
	}
}

// Deepest by its definition, and C8.
func checkDeepest(t *testing.T, spans []api.Span) {
	t.Helper()
	place, indices, e := shift.Deepest(spans)
	if e != api.OK {
		t.Fatalf("Deepest(%v): %d", spans, e)
	}
	want := 0
	for len(around(spans, want)) < depthOf(spans) {
		want++
	}
	if place != want || !slices.Equal(indices, around(spans, want)) {
		t.Fatalf("Deepest(%v) = %d, %v, want %d, %v", spans, place, indices, want, around(spans, want))
	}
	if len(indices) != depth(t, spans) {
		t.Fatalf("Deepest(%v) = %d, %v, but the depth is %d", spans, place, indices, depth(t, spans))
	}
	for _, i := range indices {
		for _, j := range indices {
			if !overlap(spans[i], spans[j]) {
				t.Fatalf("Deepest(%v) = %d, %v: %d and %d do not overlap", spans, place, indices, i, j)
			}
		}
	}
}

func TestAllSmallLists(t *testing.T) {
	check := func(spans []api.Span) { checkList(t, spans) }
	smallLists(3, 5, check)
	smallLists(4, 4, check)
	smallLists(5, 3, check)
	smallLists(7, 2, check)
}

func TestLargeLists(t *testing.T) {
	largeLists(1, 40, func(spans []api.Span) { checkList(t, spans) })
}

// As many spans as there may be, that are the same, nested, in steps or side by side.
func TestLimits(t *testing.T) {
	nested, steps, beside := []api.Span{}, []api.Span{}, []api.Span{}
	for i := range api.MaxSpans {
		nested = append(nested, api.Span{From: i, To: api.MaxPlace - i})
		steps = append(steps, api.Span{From: 10 * i, To: 10*i + 50})
		beside = append(beside, api.Span{From: 25 * i, To: 25*i + 25})
	}
	for _, spans := range [][]api.Span{nested, steps, beside, same(api.MaxSpans, 0, api.MaxPlace), same(api.MaxSpans, 999, api.MaxPlace), same(api.MaxSpans, 0, 1)} {
		checkList(t, spans)
		slices.Reverse(spans)
		checkList(t, spans)
	}
	whole := same(api.MaxSpans, 0, api.MaxPlace)
	for i, level := range coloringOf(t, shift.Levels, whole) {
		if level != i+1 {
			t.Errorf("the levels of a span that occurs %d times have %d at %d", api.MaxSpans, level, i)
		}
	}
	for i, color := range coloringOf(t, shift.Trotter, whole) {
		if color != max(0, 3*i-2) {
			t.Errorf("Trotter colours a span that occurs %d times with %d at %d", api.MaxSpans, color, i)
		}
	}
}

// Examples 1 to 3, example 3 of the document, and lists whose results were found by hand.
func TestListsOfTheDocument(t *testing.T) {
	cases := []struct {
		spans                      []api.Span
		depth                      int
		fit, levels, trotter, best []int
		place                      int
		deepest                    []int
	}{
		{list(0, 2, 4, 6, 1, 5), 2, []int{0, 0, 1}, []int{1, 1, 2}, []int{0, 0, 1}, []int{0, 0, 1}, 1, []int{0, 2}},
		{list(0, 2, 2, 4), 1, []int{0, 0}, []int{1, 1}, []int{0, 0}, []int{0, 0}, 0, []int{0}},
		{list(0, 1, 2, 5, 1, 3, 0, 3), 3, []int{0, 0, 1, 2}, []int{1, 1, 2, 3}, []int{0, 0, 1, 4}, []int{0, 2, 0, 1}, 2, []int{1, 2, 3}},
		{list(7, 8), 1, []int{0}, []int{1}, []int{0}, []int{0}, 7, []int{0}},
		{list(0, 1, 2, 3), 1, []int{0, 0}, []int{1, 1}, []int{0, 0}, []int{0, 0}, 0, []int{0}},
		{list(8, 9, 2, 3), 1, []int{0, 0}, []int{1, 1}, []int{0, 0}, []int{0, 0}, 2, []int{1}},
		// The same beginning: the order of the list decides.
		{list(1, 2, 0, 5, 0, 3), 3, []int{0, 1, 2}, []int{1, 2, 3}, []int{0, 1, 4}, []int{2, 0, 1}, 1, []int{0, 1, 2}},
		{list(0, 20, 0, 4, 3, 8, 12, 16, 7, 13), 3, []int{0, 1, 2, 1, 3}, []int{1, 2, 3, 2, 3}, []int{0, 1, 4, 1, 5}, []int{0, 1, 2, 2, 1}, 3, []int{0, 1, 2}},
		// All three numbers of the level 2, so that the greatest one is 3d - 3.
		{list(0, 2, 4, 6, 8, 10, 12, 14, 1, 4, 3, 7, 11, 13, 6, 12), 2, []int{0, 0, 0, 0, 1, 2, 1, 3}, []int{1, 1, 1, 1, 2, 2, 2, 2}, []int{0, 0, 0, 0, 1, 2, 1, 3}, []int{0, 1, 0, 1, 1, 0, 0, 1}, 1, []int{0, 4}},
	}
	for _, c := range cases {
		if d := depth(t, c.spans); d != c.depth {
			t.Errorf("Depth(%v) = %d, want %d", c.spans, d, c.depth)
		}
		if got := coloringOf(t, shift.Fit, c.spans); !slices.Equal(got, c.fit) {
			t.Errorf("Fit(%v) = %v, want %v", c.spans, got, c.fit)
		}
		if got := coloringOf(t, shift.Levels, c.spans); !slices.Equal(got, c.levels) {
			t.Errorf("Levels(%v) = %v, want %v", c.spans, got, c.levels)
		}
		if got := coloringOf(t, shift.Trotter, c.spans); !slices.Equal(got, c.trotter) {
			t.Errorf("Trotter(%v) = %v, want %v", c.spans, got, c.trotter)
		}
		if got := coloringOf(t, shift.Best, c.spans); !slices.Equal(got, c.best) {
			t.Errorf("Best(%v) = %v, want %v", c.spans, got, c.best)
		}
		place, indices, e := shift.Deepest(c.spans)
		if place != c.place || !slices.Equal(indices, c.deepest) || e != api.OK {
			t.Errorf("Deepest(%v) = %d, %v, %d, want %d, %v", c.spans, place, indices, e, c.place, c.deepest)
		}
	}
}

// Proper with right and wrong colourings, compared with its definition.
func TestProper(t *testing.T) {
	check := func(spans []api.Span, colors []int) {
		t.Helper()
		if got, e := shift.Proper(spans, colors); got != isProper(spans, colors) || e != api.OK {
			t.Fatalf("Proper(%v, %v) = %t, %d", spans, colors, got, e)
		}
	}
	smallLists(3, 4, func(spans []api.Span) {
		for colors := range probe.Lists(len(spans), 0, 2) {
			check(spans, colors)
		}
	})
	smallLists(4, 2, func(spans []api.Span) {
		for colors := range probe.Lists(len(spans), 0, 3) {
			check(spans, colors)
		}
	})
	random := rand.New(rand.NewSource(2))
	largeLists(3, 20, func(spans []api.Span) {
		colors := firstFit(spans, random.Perm(len(spans)))
		check(spans, colors)
		if len(colors) > 0 {
			// One number that differs is often one that a neighbour has.
			colors[random.Intn(len(colors))] = random.Intn(3)
			check(spans, colors)
		}
	})
	huge := 1<<63 - 1
	check(list(0, 2, 1, 3, 2, 4), []int{huge, huge - 1, huge})
	check(list(0, 2, 1, 3), []int{huge, huge})
}

// C2, the second part: no proper colouring uses fewer numbers than the depth.
func TestFewerNumbersAreNotEnough(t *testing.T) {
	check := func(spans []api.Span) {
		d := depth(t, spans)
		for colors := range probe.Lists(len(spans), 0, max(0, d-2)) {
			if ok, e := shift.Proper(spans, colors); d > 1 && ok || e != api.OK {
				t.Fatalf("Proper(%v, %v) = %t, %d, but the depth is %d", spans, colors, ok, e, d)
			}
		}
	}
	smallLists(4, 3, check)
	random := rand.New(rand.NewSource(4))
	for range 60 {
		check(randomSpans(random, 7, 9, 5))
	}
}

// C5: the colourings of a list begin with those of its beginnings.
func TestOnline(t *testing.T) {
	largeLists(5, 12, func(spans []api.Span) {
		fit := coloringOf(t, shift.Fit, spans)
		trotter := coloringOf(t, shift.Trotter, spans)
		for n := range spans {
			if got := coloringOf(t, shift.Fit, spans[:n]); !slices.Equal(got, fit[:n]) {
				t.Fatalf("Fit(%v) = %v, but of all %v", spans[:n], got, fit)
			}
			if got := coloringOf(t, shift.Trotter, spans[:n]); !slices.Equal(got, trotter[:n]) {
				t.Fatalf("Trotter(%v) = %v, but of all %v", spans[:n], got, trotter)
			}
		}
	})
}

// checkSame checks that two lists have the same depth, Fit and Trotter.
func checkSame(t *testing.T, one, two []api.Span) {
	t.Helper()
	if depth(t, one) != depth(t, two) {
		t.Fatalf("%v have the depth %d, %v %d", one, depth(t, one), two, depth(t, two))
	}
	for name, call := range map[string]func([]api.Span) ([]int, api.Errno){"Fit": shift.Fit, "Trotter": shift.Trotter} {
		if a, b := coloringOf(t, call, one), coloringOf(t, call, two); !slices.Equal(a, b) {
			t.Fatalf("%s(%v) = %v, but %s(%v) = %v", name, one, a, name, two, b)
		}
	}
}

// C6: mirrored at the middle of all places, or of those that the list needs.
func TestMirrored(t *testing.T) {
	mirrored := func(spans []api.Span, end int) []api.Span {
		var result []api.Span
		for _, s := range spans {
			result = append(result, api.Span{From: end - s.To, To: end - s.From})
		}
		return result
	}
	largeLists(6, 30, func(spans []api.Span) {
		checkSame(t, spans, mirrored(spans, api.MaxPlace))
		checkSame(t, spans, mirrored(spans, end(spans)))
	})
}

// C7: stretched as far as the ends are valid.
func TestStretched(t *testing.T) {
	largeLists(7, 30, func(spans []api.Span) {
		for _, factor := range []int{2, 3, 7, 25, api.MaxPlace / max(1, end(spans))} {
			if factor*end(spans) > api.MaxPlace {
				continue
			}
			var stretched []api.Span
			for _, s := range spans {
				stretched = append(stretched, api.Span{From: factor * s.From, To: factor * s.To})
			}
			checkSame(t, spans, stretched)
		}
	})
}
