package count

import (
	"slices"

	"bellpull/api"
)

// checked returns what is wrong with the arguments of a function, whose other
// arguments are in their ranges, and well-formed, or not. An error of one kind
// comes before those of the next one, whichever argument has it.
func checked(d int, othersInRange, othersFormed bool, sets ...[]api.Linear) api.Errno {
	if slices.ContainsFunc(sets, tooMany) {
		return api.ErrLong
	}
	set := slices.Concat(sets...)
	switch {
	case slices.ContainsFunc(set, tooLong):
		return api.ErrLong
	case d < 1 || d > api.MaxDims || !othersInRange || slices.ContainsFunc(set, beyondRange):
		return api.ErrArg
	case !othersFormed || slices.ContainsFunc(set, func(l api.Linear) bool { return malformed(d, l) }):
		return api.ErrForm
	}
	return api.OK
}

// valid returns a set that was built, unless it is not one that may be an argument.
func valid(d int, set []api.Linear) ([]api.Linear, api.Errno) {
	if checked(d, true, true, set) != api.OK {
		return nil, api.ErrFull
	}
	return set, api.OK
}

func tooMany(set []api.Linear) bool { return len(set) > api.MaxLinear }

func tooLong(l api.Linear) bool { return len(l.Periods) > api.MaxPeriods }

func beyondRange(l api.Linear) bool {
	beyond := func(v []int) bool { return !allWithin(v, api.MaxBase) }
	return beyond(l.Base) || slices.ContainsFunc(l.Periods, beyond)
}

func malformed(d int, l api.Linear) bool {
	wrong := func(v []int) bool { return len(v) != d }
	return wrong(l.Base) || slices.ContainsFunc(l.Periods, wrong)
}

func allWithin(v []int, high int) bool {
	for _, x := range v {
		if !within(x, high) {
			return false
		}
	}
	return true
}

func within(x, high int) bool { return 0 <= x && x <= high }
