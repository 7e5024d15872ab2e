package shift_test

import (
	"math"
	"math/rand"
	"slices"
	"testing"

	"bellpull/api"
	"bellpull/probe"
	"bellpull/shift"
)

// refused checks that every function returns an error for spans, and nothing with it.
func refused(t *testing.T, spans []api.Span, colors []int, want api.Errno) {
	t.Helper()
	calls := map[string]func([]api.Span) ([]int, api.Errno){"Fit": shift.Fit, "Levels": shift.Levels, "Trotter": shift.Trotter, "Best": shift.Best}
	for name, call := range calls {
		if got, e := call(spans); len(got) != 0 || e != want {
			t.Errorf("%s(%v) = %v, %d, want %d", name, spans, got, e, want)
		}
	}
	if got, e := shift.Depth(spans); got != 0 || e != want {
		t.Errorf("Depth(%v) = %d, %d, want %d", spans, got, e, want)
	}
	if got, e := shift.Proper(spans, colors); got || e != want {
		t.Errorf("Proper(%v, %v) = %t, %d, want %d", spans, colors, got, e, want)
	}
	if place, got, e := shift.Deepest(spans); place != 0 || len(got) != 0 || e != want {
		t.Errorf("Deepest(%v) = %d, %v, %d, want %d", spans, place, got, e, want)
	}
}

// malformed are spans that end before they begin, or outside the places.
func malformed() []api.Span {
	all := list(0, 0, 2, 2, 5, 4, 1, 0, api.MaxPlace, api.MaxPlace, api.MaxPlace, api.MaxPlace+1, 0, api.MaxPlace+1, -1, 1, -1, 0, -2, -1, math.MinInt, math.MaxInt, math.MaxInt, math.MinInt)
	for _, x := range probe.Outside(0, api.MaxPlace) {
		all = append(all, api.Span{From: x, To: 7}, api.Span{From: 7, To: x}, api.Span{From: x, To: x})
		if x < math.MaxInt {
			all = append(all, api.Span{From: x, To: x + 1})
		}
	}
	return all
}

// Every function refuses a malformed span, wherever it is, before it looks at the colouring.
func TestMalformed(t *testing.T) {
	for _, bad := range malformed() {
		refused(t, []api.Span{bad}, []int{0}, api.ErrForm)
		refused(t, []api.Span{bad}, nil, api.ErrForm)
		refused(t, append(list(0, 2, 5, 9), bad), []int{-1}, api.ErrForm)
		refused(t, append([]api.Span{bad}, list(0, 2, 5, 9)...), []int{0, 1, 2}, api.ErrForm)
		refused(t, append(same(api.MaxSpans-1, 3, 4), bad), []int{0, 1, 2}, api.ErrForm)
	}
}

// Every function refuses too many spans before anything else.
func TestTooMany(t *testing.T) {
	for _, n := range []int{api.MaxSpans + 1, api.MaxSpans + 2, 5000} {
		refused(t, same(n, 3, 4), make([]int, n), api.ErrLong)
		refused(t, same(n, 3, 4), []int{-1}, api.ErrLong)
		refused(t, same(n, 4, 3), nil, api.ErrLong)
		refused(t, append(same(n-1, 3, 4), api.Span{}), nil, api.ErrLong)
	}
}

// Proper refuses a colouring that has not a number for each span, or one below 0.
func TestProperRefuses(t *testing.T) {
	cases := []struct {
		spans  []api.Span
		colors []int
	}{
		{nil, []int{0}},
		{list(0, 1), nil},
		{list(0, 1), []int{}},
		{list(0, 1), []int{0, 0}},
		{list(0, 1), []int{-1}},
		{list(0, 1), []int{math.MinInt}},
		{list(0, 1, 2, 3, 4, 5), []int{0, 0, -1}},
		{list(0, 1, 2, 3, 4, 5), []int{-1, 0, 0}},
		{list(0, 5, 2, 3, 4, 5), []int{0, 0, -1}},
		{list(0, 5, 2, 3, 4, 5), []int{0, 0}},
		{list(0, 5, 2, 3), make([]int, 5000)},
	}
	for _, c := range cases {
		if got, e := shift.Proper(c.spans, c.colors); got || e != api.ErrArg {
			t.Errorf("Proper(%v, %v) = %t, %d", c.spans, c.colors, got, e)
		}
	}
}

// R1: the functions end, and do not panic, for whatever spans there are.
func TestStrangeArguments(t *testing.T) {
	numbers := []int{math.MinInt, math.MinInt32, -1, 0, 1, 500, 999, 1000, 1001, math.MaxInt32, math.MaxInt}
	for _, from := range numbers {
		for _, to := range numbers {
			span := api.Span{From: from, To: to}
			valid := 0 <= from && from < to && to <= 1000
			if d, e := shift.Depth([]api.Span{span, span}); valid && (d != 2 || e != api.OK) || !valid && (d != 0 || e != api.ErrForm) {
				t.Errorf("Depth of twice %v = %d, %d", span, d, e)
			}
			if !valid {
				refused(t, []api.Span{span}, []int{from}, api.ErrForm)
				continue
			}
			checkList(t, []api.Span{span, span})
			shift.Proper([]api.Span{span, span}, []int{from, to})
		}
	}
}

// R4: nil and an empty slice are the same list, without a deepest place.
func TestNoSpans(t *testing.T) {
	for _, spans := range [][]api.Span{nil, {}} {
		checkList(t, spans)
		for _, colors := range [][]int{nil, {}} {
			if ok, e := shift.Proper(spans, colors); !ok || e != api.OK {
				t.Errorf("Proper of nothing = %t, %d", ok, e)
			}
		}
		if place, indices, e := shift.Deepest(spans); place != 0 || len(indices) != 0 || e != api.ErrNone {
			t.Errorf("Deepest of nothing = %d, %v, %d", place, indices, e)
		}
	}
}

// lists are one call of each function, with its result as a list.
func lists() map[string]func(spans []api.Span) []int {
	return map[string]func(spans []api.Span) []int{
		"Depth":   func(s []api.Span) []int { d, _ := shift.Depth(s); return []int{d} },
		"Fit":     func(s []api.Span) []int { r, _ := shift.Fit(s); return r },
		"Levels":  func(s []api.Span) []int { r, _ := shift.Levels(s); return r },
		"Trotter": func(s []api.Span) []int { r, _ := shift.Trotter(s); return r },
		"Best":    func(s []api.Span) []int { r, _ := shift.Best(s); return r },
		"Deepest": func(s []api.Span) []int { _, r, _ := shift.Deepest(s); return r },
		"Proper": func(s []api.Span) []int {
			if ok, _ := shift.Proper(s, []int{0, 1, 2, 0, 1, 2}); ok {
				return []int{1}
			}
			return []int{0}
		},
	}
}

// R5 and R6: arguments stay as they are, results are new memory, and the same
// arguments have the same result, whatever their capacity.
func TestArgumentsAndResults(t *testing.T) {
	for name, call := range lists() {
		for _, spans := range [][]api.Span{list(5, 9, 0, 6, 3, 7, 2, 4, 8, 10, 1, 2), list(0, 3, 1, 4, 2, 5, 3, 6, 4, 7, 5, 8)} {
			if wrong := probe.Memory(spans, api.Span{From: 0, To: 900}, call); wrong != "" {
				t.Errorf("%s %s", name, wrong)
			}
		}
	}
}

// R5: Proper leaves the colouring as it is.
func TestProperChangesNoColoring(t *testing.T) {
	spans := list(0, 3, 1, 4, 2, 5)
	proper := func(colors []int) []int {
		if ok, _ := shift.Proper(spans, colors); ok {
			return []int{1}
		}
		return []int{0}
	}
	for _, colors := range [][]int{{2, 0, 1}, {2, 0, 0}} {
		if wrong := probe.Memory(colors, 5, proper); wrong != "" {
			t.Errorf("Proper of %v %s", colors, wrong)
		}
	}
}

// R6: calls in between, also refused ones, change nothing.
func TestCallsDoNotMatterToEachOther(t *testing.T) {
	random := rand.New(rand.NewSource(8))
	spans := randomSpans(random, 30, 60, 20)
	first := map[string][]int{}
	for name, call := range lists() {
		first[name] = call(spans)
	}
	for range 10 {
		for name, call := range lists() {
			call(randomSpans(random, 40, 90, 50))
			call(list(2, 1))
			if got := call(spans); !slices.Equal(got, first[name]) {
				t.Errorf("%s(%v) = %v, then %v", name, spans, first[name], got)
			}
		}
	}
}
