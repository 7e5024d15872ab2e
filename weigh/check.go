package weigh

import "bellpull/api"

func within(x, low, high int) bool { return low <= x && x <= high }

func areWeights(weights []int) bool {
	before := 0
	for _, weight := range weights {
		if !within(weight, before+1, api.MaxWeight) {
			return false
		}
		before = weight
	}
	return len(weights) > 0
}

// checked returns what is wrong with weights.
func checked(weights []int) api.Errno { return checkedTotal(weights, api.MaxWeights, 0) }

// checkedTotal returns what is wrong with up to so many weights, or with a total.
func checkedTotal(weights []int, most, total int) api.Errno {
	switch {
	case len(weights) > most:
		return api.ErrLong
	case total < 0:
		return api.ErrArg
	case !areWeights(weights):
		return api.ErrForm
	}
	return api.OK
}
