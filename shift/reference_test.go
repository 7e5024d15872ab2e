package shift_test

import (
	"math/rand"
	"slices"
	"testing"

	"bellpull/api"
	"bellpull/probe"
	"bellpull/shift"
)

// The references below follow the definitions of the chapter word by word, and
// share no code with the package.

// overlap looks for an integer in common.
func overlap(a, b api.Span) bool {
	for place := a.From; place < a.To; place++ {
		if b.From <= place && place < b.To {
			return true
		}
	}
	return false
}

// around are the indices of the spans that an integer is in.
func around(spans []api.Span, place int) []int {
	var list []int
	for i, s := range spans {
		if overlap(s, api.Span{From: place, To: place + 1}) {
			list = append(list, i)
		}
	}
	return list
}

// depthIn is the greatest number of spans that an integer of a span is in.
func depthIn(within api.Span, spans []api.Span) int {
	times := make([]int, api.MaxPlace)
	for _, s := range spans {
		for place := max(s.From, within.From); place < min(s.To, within.To); place++ {
			times[place]++
		}
	}
	return slices.Max(times)
}

func depthOf(spans []api.Span) int {
	return depthIn(api.Span{From: 0, To: end(spans)}, spans)
}

// end is the first integer behind all spans.
func end(spans []api.Span) int {
	last := 0
	for _, s := range spans {
		last = max(last, s.To)
	}
	return last
}

// isProper compares the colours of any two spans that overlap.
func isProper(spans []api.Span, colors []int) bool {
	for i := range spans {
		for j := range i {
			if overlap(spans[i], spans[j]) && colors[i] == colors[j] {
				return false
			}
		}
	}
	return true
}

// firstFit colours the spans in an order.
func firstFit(spans []api.Span, order []int) []int {
	colors := make([]int, len(spans))
	for at, i := range order {
		used := map[int]bool{}
		for _, j := range order[:at] {
			if overlap(spans[i], spans[j]) {
				used[colors[j]] = true
			}
		}
		for used[colors[i]] {
			colors[i]++
		}
	}
	return colors
}

// asListed is the order of the list.
func asListed(spans []api.Span) []int {
	order := make([]int, len(spans))
	for i := range order {
		order[i] = i
	}
	return order
}

// byFrom takes the spans with the least From first, those of the same in the order of the list.
func byFrom(spans []api.Span) []int {
	var order []int
	for from := range api.MaxPlace {
		for i, s := range spans {
			if s.From == from {
				order = append(order, i)
			}
		}
	}
	return order
}

// levelsOf gives each span the least level at which it is not too deep.
func levelsOf(spans []api.Span) []int {
	var levels []int
	for i, s := range spans {
		for k := 1; ; k++ {
			with := []api.Span{s}
			for j := range i {
				if levels[j] <= k {
					with = append(with, spans[j])
				}
			}
			if depthIn(s, with) <= k {
				levels = append(levels, k)
				break
			}
		}
	}
	return levels
}

// byLevels gives the spans of a level above 1 one of its three numbers.
func byLevels(t *testing.T, spans []api.Span) []int {
	levels := levelsOf(spans)
	colors := make([]int, len(spans))
	for i, k := range levels {
		if k == 1 {
			continue
		}
		used := map[int]bool{}
		for j := range i {
			if levels[j] == k && overlap(spans[i], spans[j]) {
				used[colors[j]] = true
			}
		}
		three := []int{3*k - 5, 3*k - 4, 3*k - 3}
		free := slices.IndexFunc(three, func(color int) bool { return !used[color] })
		if free < 0 {
			t.Fatalf("three numbers are not enough for %v", spans)
		}
		colors[i] = three[free]
	}
	return colors
}

// allSpans are those that end at most at an integer.
func allSpans(end int) []api.Span {
	var all []api.Span
	for from := range end {
		for to := from + 1; to <= end; to++ {
			all = append(all, api.Span{From: from, To: to})
		}
	}
	return all
}

// smallLists calls check with all lists of at most so many spans that end at most at an integer.
func smallLists(most, end int, check func(spans []api.Span)) {
	all := allSpans(end)
	for n := range most + 1 {
		for list := range probe.Lists(n, 0, len(all)-1) {
			spans := make([]api.Span, n)
			for i, x := range list {
				spans[i] = all[x]
			}
			check(spans)
		}
	}
}

// randomSpans are n spans that end at most at an integer and are at most so long.
func randomSpans(random *rand.Rand, n, end, long int) []api.Span {
	spans := make([]api.Span, n)
	for i := range spans {
		length := 1 + random.Intn(long)
		from := random.Intn(end - length + 1)
		spans[i] = api.Span{From: from, To: from + length}
	}
	return spans
}

// largeLists calls check with random lists of all kinds: crowded, scattered, of long and of short spans.
func largeLists(seed int64, times int, check func(spans []api.Span)) {
	random := rand.New(rand.NewSource(seed))
	for range times {
		for _, end := range []int{6, 15, 40, 200, api.MaxPlace} {
			for _, long := range []int{end / 5, end / 2, end} {
				check(randomSpans(random, random.Intn(api.MaxSpans+1), end, max(1, long)))
			}
		}
	}
}

// list makes a list of spans of their ends.
func list(ends ...int) []api.Span {
	var spans []api.Span
	for i := 0; i < len(ends); i += 2 {
		spans = append(spans, api.Span{From: ends[i], To: ends[i+1]})
	}
	return spans
}

// same makes a list of n spans that are the same.
func same(n, from, to int) []api.Span {
	return slices.Repeat([]api.Span{{From: from, To: to}}, n)
}

// coloringOf is the result of a call that must not fail.
func coloringOf(t *testing.T, call func([]api.Span) ([]int, api.Errno), spans []api.Span) []int {
	t.Helper()
	colors, e := call(spans)
	if e != api.OK || len(colors) != len(spans) {
		t.Fatalf("%v have the colouring %v, %d", spans, colors, e)
	}
	return colors
}

// depth is the one that the package computes.
func depth(t *testing.T, spans []api.Span) int {
	t.Helper()
	d, e := shift.Depth(spans)
	if e != api.OK {
		t.Fatalf("Depth(%v): %d", spans, e)
	}
	return d
}
