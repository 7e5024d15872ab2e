package count

import (
	"maps"
	"slices"

	"bellpull/api"
)

// found are the vectors of a set that were found. Each search has a bound, and
// finds all that are inside it.
type found map[vector]bool

// bound says which vectors are searched for. As no number is below 0, whatever
// is added to one that is beyond the bound leads to others beyond it.
type bound func(v vector) bool

// membersTo returns the vectors of a semilinear set whose sums are at most n.
func membersTo(n int, set []api.Linear) found {
	inside := func(v vector) bool { return v.total() <= n }
	members := found{}
	for _, l := range linearsOf(set) {
		members.add(foundOf(l.base).plus(foundOf(l.periods...).star(inside), inside))
	}
	return members
}

func foundOf(list ...vector) found {
	all := found{}
	for _, v := range list {
		all[v] = true
	}
	return all
}

// trim deletes what is beyond a bound.
func (f found) trim(inside bound) {
	for v := range f {
		if !inside(v) {
			delete(f, v)
		}
	}
}

func (f found) add(others found) {
	for v := range others {
		f[v] = true
	}
}

// without returns the vectors that are not among others, in no order.
func (f found) without(others found) []vector {
	var result []vector
	for v := range f {
		if !others[v] {
			result = append(result, v)
		}
	}
	return result
}

// plus returns the sums of one vector of each of two.
func (f found) plus(others found, inside bound) found {
	sums := found{}
	for v := range f {
		for w := range others {
			sums[v.plus(w)] = true
		}
	}
	sums.trim(inside)
	return sums
}

// star returns the sums of any number of vectors. The least ones come first, so
// that most of the others are their sums, which lead to nothing new.
func (f found) star(inside bound) found {
	sums := foundOf(vector{})
	for _, v := range slices.SortedFunc(maps.Keys(f), compare) {
		if sums[v] {
			continue
		}
		multiples := found{}
		for w := v; inside(w); w = w.plus(v) {
			multiples[w] = true
		}
		sums.add(sums.plus(multiples, inside))
	}
	return sums
}
