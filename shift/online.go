package shift

import (
	"slices"

	"bellpull/api"
)

// online gives each interval, as it arrives, the number that a rule chooses for
// it. A rule sees only the intervals before it and their numbers, so no later
// interval can matter.
func online(spans []api.Span, rule func(span api.Span, before []api.Span, numbers []int) int) []int {
	numbers := make([]int, 0, len(spans))
	for i, span := range spans {
		number := rule(span, spans[:i], numbers)
		numbers = append(numbers, number)
	}
	return numbers
}

// fit returns the colouring by First Fit.
func fit(spans []api.Span) []int {
	return online(spans, func(span api.Span, before []api.Span, colors []int) int {
		return leastFree(0, taken(span, before, colors))
	})
}

// leveled returns the levels.
func leveled(spans []api.Span) []int {
	return online(spans, func(span api.Span, before []api.Span, levels []int) int {
		level := 1
		for depthWithin(span, upTo(level, before, levels)) > level {
			level++
		}
		return level
	})
}

// trotter returns the colouring by levels. Different levels have different
// numbers, so those of intervals of another level are never in the way, and an
// interval overlaps at most two others of its level, so one of three is free.
func trotter(spans []api.Span) []int {
	levels := leveled(spans)
	return online(spans, func(span api.Span, before []api.Span, colors []int) int {
		lowest := max(0, 3*levels[len(before)]-5)
		return leastFree(lowest, taken(span, before, colors))
	})
}

// leastFree returns the least number from low on that is not among the numbers.
func leastFree(low int, numbers []int) int {
	for slices.Contains(numbers, low) {
		low++
	}
	return low
}

// taken returns the numbers of the intervals that overlap one.
func taken(span api.Span, others []api.Span, numbers []int) []int {
	var result []int
	for i, other := range others {
		if common(span, other) != (api.Span{}) {
			result = append(result, numbers[i])
		}
	}
	return result
}

// upTo returns the intervals with at most a level.
func upTo(level int, spans []api.Span, levels []int) []api.Span {
	var result []api.Span
	for i, span := range spans {
		if levels[i] <= level {
			result = append(result, span)
		}
	}
	return result
}

// depthWithin returns the depth of an interval and others at that interval.
func depthWithin(span api.Span, others []api.Span) int {
	parts := []api.Span{span}
	for _, other := range others {
		if part := common(span, other); part != (api.Span{}) {
			parts = append(parts, part)
		}
	}
	_, depth := deepest(parts)
	return depth
}

// common returns the integers that two intervals have in common, or a zero
// Span, which no interval is, if there are none.
func common(x, y api.Span) api.Span {
	both := api.Span{From: max(x.From, y.From), To: min(x.To, y.To)}
	if both.From >= both.To {
		return api.Span{}
	}
	return both
}

// deepest returns the least integer that is in the most intervals, and their
// number. As it is the least, one of them begins there.
func deepest(spans []api.Span) (int, int) {
	place, depth := 0, 0
	for _, span := range spans {
		around := 0
		for _, other := range spans {
			if contains(other, span.From) {
				around++
			}
		}
		if around > depth || around == depth && span.From < place {
			place, depth = span.From, around
		}
	}
	return place, depth
}

func contains(span api.Span, place int) bool { return span.From <= place && place < span.To }
