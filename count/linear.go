package count

import "bellpull/api"

// linear is a linear set that was checked.
type linear struct {
	base    vector
	periods []vector
}

func linearsOf(set []api.Linear) []linear {
	var result []linear
	for _, l := range set {
		result = append(result, linear{vectorOf(l.Base), vectorsOf(l.Periods)})
	}
	return result
}

func vectorsOf(lists [][]int) []vector {
	var result []vector
	for _, numbers := range lists {
		result = append(result, vectorOf(numbers))
	}
	return result
}

// setOf returns linear sets in d dimensions as they are given out.
func setOf(d int, list []linear) []api.Linear {
	var result []api.Linear
	for _, l := range list {
		given := api.Linear{Base: l.base.numbers(d)}
		for _, period := range l.periods {
			given.Periods = append(given.Periods, period.numbers(d))
		}
		result = append(result, given)
	}
	return result
}

// has searches how often each period is used instead of collecting vectors:
// there are too many up to MaxVector.
func (l linear) has(v vector) bool {
	return l.base.upTo(v) && isSum(v.minus(l.base, 1), l.periods)
}

// isSum reports whether a vector is a sum of periods, each any number of times.
func isSum(v vector, periods []vector) bool {
	if len(periods) == 0 {
		return v == vector{}
	}
	period, others := periods[0], periods[1:]
	times := v.room(period)
	if len(others) == 0 {
		// If any number of the last period leaves nothing, the greatest does.
		return isSum(v.minus(period, times), others)
	}
	for k := range times + 1 {
		if isSum(v.minus(period, k), others) {
			return true
		}
	}
	return false
}
