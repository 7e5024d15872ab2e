package count_test

import (
	"math/rand"
	"slices"
	"testing"

	"bellpull/api"
	"bellpull/count"
	"bellpull/probe"
)

// checkHas compares Has with its definition for all vectors up to high.
func checkHas(t *testing.T, d int, set []api.Linear, high int) {
	t.Helper()
	want := boxOf(d, set, high)
	for v := range probe.Lists(d, 0, high) {
		if got := has(t, d, set, v); got != want.has(v) {
			t.Fatalf("Has(%d, %v, %v) = %t", d, set, v, got)
		}
	}
}

func TestHasInSmallSets(t *testing.T) {
	for numbers := range probe.Lists(3, 0, 5) {
		checkHas(t, 1, []api.Linear{lin(numbers[:1], numbers[1:2], numbers[2:])}, api.MaxVector)
		checkHas(t, 1, []api.Linear{lin(numbers[:1], numbers[1:2]), lin(numbers[2:])}, 15)
	}
	for numbers := range probe.Lists(6, 0, 2) {
		checkHas(t, 2, []api.Linear{lin(numbers[:2], numbers[2:4], numbers[4:])}, 8)
		checkHas(t, 3, []api.Linear{lin(numbers[:3], numbers[3:])}, 4)
	}
}

func TestHasInLargeSets(t *testing.T) {
	someSets(1, 300, func(d int, set []api.Linear) { checkHas(t, d, set, []int{60, 30, 9}[d-1]) })
	random := rand.New(rand.NewSource(2))
	for range 10 {
		for d := 2; d <= api.MaxDims; d++ {
			set := randomSet(random, d, 2, api.MaxPeriods, 6)
			want := boxOf(d, set, api.MaxVector)
			for range 2000 {
				v := []int{random.Intn(61), random.Intn(61), random.Intn(61)}[:d]
				if got := has(t, d, set, v); got != want.has(v) {
					t.Fatalf("Has(%d, %v, %v) = %t", d, set, v, got)
				}
			}
		}
	}
}

// The greatest numbers that there may be, and as many sets and periods.
func TestHasAtTheLimits(t *testing.T) {
	base, one := []int{20, 20, 20}, []int{1, 1, 1}
	units := [][]int{{1, 0, 0}, {0, 1, 0}, {0, 0, 1}}
	cases := []struct {
		set  []api.Linear
		v    []int
		want bool
	}{
		{[]api.Linear{lin(base, base)}, []int{60, 60, 60}, true},
		{[]api.Linear{lin(base, base)}, []int{60, 60, 59}, false},
		{[]api.Linear{lin(base, one)}, []int{60, 60, 60}, true},
		{[]api.Linear{lin(base, one)}, []int{19, 19, 19}, false},
		{[]api.Linear{lin(base)}, []int{40, 40, 40}, false},
		{[]api.Linear{lin(base, units...)}, []int{60, 20, 41}, true},
		{[]api.Linear{lin(base, units...)}, []int{60, 19, 41}, false},
		{slices.Repeat([]api.Linear{lin([]int{0, 0, 1}, []int{1, 0, 0}, []int{0, 1, 0}, []int{0, 0, 2}, []int{1, 1, 2})}, api.MaxLinear), []int{60, 60, 60}, false},
		{append(slices.Repeat([]api.Linear{lin(base)}, api.MaxLinear-1), lin([]int{0, 0, 0}, one, one, base, base)), []int{7, 7, 7}, true},
	}
	for _, c := range cases {
		if got := has(t, 3, c.set, c.v); got != c.want {
			t.Errorf("Has(3, %v, %v) = %t", c.set, c.v, got)
		}
	}
	if has(t, 2, nil, []int{0, 0}) {
		t.Error("0 is in the set without linear sets")
	}
}

// countIn counts the vectors with a sum in the reference.
func countIn(in box, n int) int {
	size := 0
	for v := range probe.Lists(in.d, 0, in.high) {
		if total(v) == n && in.has(v) {
			size++
		}
	}
	return size
}

// Count by its definition, and E7: it counts what Has accepts.
func TestCount(t *testing.T) {
	someSets(3, 60, func(d int, set []api.Linear) {
		want := boxOf(d, set, 20)
		for n := range 21 {
			size := counted(t, d, set, n)
			if size != countIn(want, n) {
				t.Fatalf("Count(%d, %v, %d) = %d, want %d", d, set, n, size, countIn(want, n))
			}
			for v := range probe.Lists(d, 0, n) {
				if total(v) == n && has(t, d, set, v) {
					size--
				}
			}
			if size != 0 {
				t.Fatalf("Count(%d, %v, %d) counts %d too many", d, set, n, size)
			}
		}
	})
}

// All vectors with a sum, those in no set, and one that is in several sets.
func TestCountOfSimpleSets(t *testing.T) {
	all := lin([]int{0, 0, 0}, []int{1, 0, 0}, []int{0, 1, 0}, []int{0, 0, 1})
	for n := range 21 {
		if got := counted(t, 3, []api.Linear{all}, n); got != (n+1)*(n+2)/2 {
			t.Errorf("Count of all vectors with the sum %d = %d", n, got)
		}
		if got := counted(t, 3, slices.Repeat([]api.Linear{all}, api.MaxLinear), n); got != (n+1)*(n+2)/2 {
			t.Errorf("Count of all vectors with the sum %d = %d", n, got)
		}
		if got := counted(t, 3, nil, n); got != 0 {
			t.Errorf("Count of nothing with the sum %d = %d", n, got)
		}
	}
	if got := counted(t, 1, []api.Linear{lin([]int{20}), lin([]int{0}, []int{4})}, 20); got != 1 {
		t.Errorf("Count of 20 = %d", got)
	}
}

// firstDifference searches all vectors with sums of at most n.
func firstDifference(d int, x, y []api.Linear, n int) []int {
	var first []int
	inX, inY := boxOf(d, x, n), boxOf(d, y, n)
	for v := range probe.Lists(d, 0, n) {
		if total(v) <= n && inX.has(v) != inY.has(v) && (first == nil || before(v, first)) {
			first = v
		}
	}
	return first
}

// checkDiffer compares Differ with its definition, both ways round.
func checkDiffer(t *testing.T, d int, x, y []api.Linear, n int) {
	t.Helper()
	want := firstDifference(d, x, y, n)
	for _, swapped := range []bool{false, true} {
		if swapped {
			x, y = y, x
		}
		got, e := count.Differ(d, x, y, n)
		if want == nil && (len(got) != 0 || e != api.ErrNone) || want != nil && (!slices.Equal(got, want) || e != api.OK) {
			t.Fatalf("Differ(%d, %v, %v, %d) = %v, %d, want %v", d, x, y, n, got, e, want)
		}
	}
}

// Differ by its definition, and E7: a set does not differ from itself.
func TestDiffer(t *testing.T) {
	random := rand.New(rand.NewSource(4))
	someSets(5, 200, func(d int, set []api.Linear) {
		n := random.Intn(21)
		if got, e := count.Differ(d, set, set, n); len(got) != 0 || e != api.ErrNone {
			t.Fatalf("Differ(%d, %v, %v, %d) = %v, %d", d, set, set, n, got, e)
		}
		checkDiffer(t, d, set, randomSet(random, d, random.Intn(4), 3, 4), n)
		if len(set) > 0 {
			checkDiffer(t, d, set, set[1:], n)
		}
	})
}

// A difference may be anywhere up to the sum n, and beyond it it is none.
func TestDifferAtTheBound(t *testing.T) {
	evens, even := lin([]int{0}, []int{2}), lin([]int{0}, []int{4})
	for n := range 21 {
		checkDiffer(t, 1, []api.Linear{evens}, []api.Linear{even, lin([]int{18}), lin([]int{2}), lin([]int{6}, []int{8})}, n)
		checkDiffer(t, 3, nil, []api.Linear{lin([]int{0, n, 0}), lin([]int{0, 0, min(20, n+1)}), lin([]int{n, 0, 0})}, n)
		checkDiffer(t, 2, []api.Linear{lin([]int{n, 0})}, []api.Linear{lin([]int{0, n})}, n)
		checkDiffer(t, 2, nil, nil, n)
	}
}

// Least by its definition, and E8.
func TestLeast(t *testing.T) {
	someSets(6, 600, func(d int, set []api.Linear) {
		got, e := count.Least(d, set)
		if len(set) == 0 {
			if len(got) != 0 || e != api.ErrNone {
				t.Fatalf("Least of nothing = %v, %d", got, e)
			}
			return
		}
		isBase := func(l api.Linear) bool { return slices.Equal(l.Base, got) }
		if e != api.OK || !has(t, d, set, got) || !slices.ContainsFunc(set, isBase) {
			t.Fatalf("Least(%d, %v) = %v, %d", d, set, got, e)
		}
		for _, l := range set {
			if before(l.Base, got) {
				t.Fatalf("Least(%d, %v) = %v", d, set, got)
			}
		}
		if n := total(got); n <= 20 {
			first, _ := count.Differ(d, set, nil, n)
			if !slices.Equal(first, got) {
				t.Fatalf("Least(%d, %v) = %v, but Differ = %v", d, set, got, first)
			}
		}
	})
}

func TestLeastOfSimpleSets(t *testing.T) {
	cases := []struct {
		set  []api.Linear
		want []int
	}{
		{[]api.Linear{lin([]int{2, 0, 1}), lin([]int{0, 3, 0}), lin([]int{0, 2, 1})}, []int{0, 2, 1}},
		{[]api.Linear{lin([]int{0, 0, 4}), lin([]int{3, 0, 0})}, []int{3, 0, 0}},
		{[]api.Linear{lin([]int{20, 20, 20}, []int{0, 0, 0})}, []int{20, 20, 20}},
		{[]api.Linear{lin([]int{1, 0, 0}), lin([]int{1, 0, 0}, []int{1, 1, 1})}, []int{1, 0, 0}},
	}
	for _, c := range cases {
		if got, e := count.Least(3, c.set); !slices.Equal(got, c.want) || e != api.OK {
			t.Errorf("Least(3, %v) = %v, %d", c.set, got, e)
		}
	}
}

// checkPeriods looks for all bases, and, if a vector is in a linear set, for its sums with the periods.
func checkPeriods(t *testing.T, d int, set []api.Linear, v []int) {
	t.Helper()
	for _, l := range set {
		if !has(t, d, set, l.Base) {
			t.Fatalf("Has(%d, %v, %v): the base is missing", d, set, l.Base)
		}
		for _, p := range l.Periods {
			if w := plus(v, p); has(t, d, []api.Linear{l}, v) && slices.Max(w) <= api.MaxVector && !has(t, d, []api.Linear{l}, w) {
				t.Fatalf("%v is in %v, but %v is not", v, l, w)
			}
		}
	}
}

// E4: the base is in a set, and with a vector its sum with a period.
func TestPeriods(t *testing.T) {
	random := rand.New(rand.NewSource(7))
	someSets(8, 300, func(d int, set []api.Linear) {
		for _, l := range set {
			v := l.Base
			for len(l.Periods) > 0 && slices.Max(v) <= api.MaxVector {
				checkPeriods(t, d, set, v)
				p := l.Periods[random.Intn(len(l.Periods))]
				if total(p) == 0 {
					break
				}
				v = plus(v, p)
			}
			checkPeriods(t, d, set, randomVector(random, d, 20))
		}
	})
}

// shuffled changes the order of linear sets and of their periods, and adds
// periods that are 0, or there already, where there is room for them.
func shuffled(random *rand.Rand, d int, set []api.Linear) []api.Linear {
	var result []api.Linear
	for _, i := range random.Perm(len(set)) {
		periods := slices.Clone(set[i].Periods)
		for len(periods) < api.MaxPeriods && random.Intn(3) > 0 {
			more := make([]int, d)
			if len(periods) > 0 && random.Intn(2) == 0 {
				more = periods[random.Intn(len(periods))]
			}
			periods = append(periods, more)
		}
		random.Shuffle(len(periods), func(i, j int) { periods[i], periods[j] = periods[j], periods[i] })
		result = append(result, lin(set[i].Base, periods...))
	}
	return result
}

// E5: neither orders nor needless periods matter.
func TestOrderDoesNotMatter(t *testing.T) {
	random := rand.New(rand.NewSource(9))
	someSets(10, 300, func(d int, set []api.Linear) {
		other := shuffled(random, d, set)
		for range 40 {
			v := randomVector(random, d, 40)
			if has(t, d, set, v) != has(t, d, other, v) {
				t.Fatalf("Has(%d, .., %v) differs between %v and %v", d, v, set, other)
			}
		}
		for n := range 21 {
			if counted(t, d, set, n) != counted(t, d, other, n) {
				t.Fatalf("Count(%d, .., %d) differs between %v and %v", d, n, set, other)
			}
		}
		if got, e := count.Differ(d, set, other, 20); e != api.ErrNone {
			t.Fatalf("Differ(%d, %v, %v, 20) = %v, %d", d, set, other, got, e)
		}
	})
}

// Example 1.
func TestSetsOfTheDocument(t *testing.T) {
	set := []api.Linear{lin([]int{1, 0}, []int{1, 1})}
	if !has(t, 2, set, []int{3, 2}) || has(t, 2, set, []int{2, 2}) || counted(t, 2, set, 3) != 1 {
		t.Errorf("example 1: %t, %t, %d", has(t, 2, set, []int{3, 2}), has(t, 2, set, []int{2, 2}), counted(t, 2, set, 3))
	}
}
