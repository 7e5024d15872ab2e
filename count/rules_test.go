package count_test

import (
	"math"
	"math/rand"
	"slices"
	"strings"
	"testing"

	"bellpull/api"
	"bellpull/count"
	"bellpull/probe"
)

// refusedCode checks that an expression is refused, and nothing is returned.
func refusedCode(t *testing.T, code string, v []int, want api.Errno) {
	t.Helper()
	if ok, e := count.Accepts(code, v); ok || e != want {
		t.Errorf("Accepts(%q, %v) = %t, %d, want %d", code, v, ok, e, want)
	}
	if set, e := count.Image(code); len(set) != 0 || e != want {
		t.Errorf("Image(%q) = %v, %d, want %d", code, set, e, want)
	}
}

// refused checks that all functions return an error for a set, and nothing
// with it, whichever argument it is. The other arguments are valid.
func refused(t *testing.T, d int, set []api.Linear, want api.Errno) {
	t.Helper()
	refusedWith(t, d, set, []int{1, 2, 3}[:min(max(d, 1), 3)], 20, want)
	var other []api.Linear
	if 1 <= d && d <= api.MaxDims {
		other = []api.Linear{lin(make([]int, d))}
	}
	refusedPair(t, d, set, other, want)
	refusedPair(t, d, other, set, want)
}

// refusedWith checks that the functions of one set return an error.
func refusedWith(t *testing.T, d int, set []api.Linear, v []int, n int, want api.Errno) {
	t.Helper()
	if ok, e := count.Has(d, set, v); ok || e != want {
		t.Errorf("Has(%d, %v, %v) = %t, %d, want %d", d, set, v, ok, e, want)
	}
	if size, e := count.Count(d, set, n); size != 0 || e != want {
		t.Errorf("Count(%d, %v, %d) = %d, %d, want %d", d, set, n, size, e, want)
	}
	if got, e := count.Star(d, set); len(got) != 0 || e != want {
		t.Errorf("Star(%d, %v) = %v, %d, want %d", d, set, got, e, want)
	}
	if got, e := count.Least(d, set); len(got) != 0 || e != want {
		t.Errorf("Least(%d, %v) = %v, %d, want %d", d, set, got, e, want)
	}
}

// refusedPair checks that the functions of two sets return an error.
func refusedPair(t *testing.T, d int, x, y []api.Linear, want api.Errno) {
	t.Helper()
	if got, e := count.Differ(d, x, y, 5); len(got) != 0 || e != want {
		t.Errorf("Differ(%d, %v, %v, 5) = %v, %d, want %d", d, x, y, got, e, want)
	}
	if got, e := count.Sum(d, x, y); len(got) != 0 || e != want {
		t.Errorf("Sum(%d, %v, %v) = %v, %d, want %d", d, x, y, got, e, want)
	}
}

// with puts a linear set into a list of others in d dimensions.
func with(l api.Linear, d, before, after int) []api.Linear {
	other := []api.Linear{lin(make([]int, d), make([]int, d))}
	return slices.Concat(slices.Repeat(other, before), []api.Linear{l}, slices.Repeat(other, after))
}

// wrong are linear sets in d dimensions, at all places, where just the one
// vector is wrong: as a base, and as any period.
func wrong(v []int, d int) [][]api.Linear {
	good := make([]int, d)
	all := []api.Linear{lin(v), lin(v, good), lin(good, v), lin(good, v, good), lin(good, good, v), lin(good, good, good, good, v)}
	var sets [][]api.Linear
	for _, l := range all {
		sets = append(sets, with(l, d, 0, 0), with(l, d, 1, 2), with(l, d, 7, 0))
	}
	return sets
}

// Too many linear sets, or periods in any of them, come before all else.
func TestTooMany(t *testing.T) {
	for d := -1; d <= 4; d++ {
		size := max(d, 0)
		five := lin(make([]int, size), slices.Repeat([][]int{make([]int, size)}, 5)...)
		bad := lin([]int{-1, 21, 0, 0}, nil, []int{99})
		for _, set := range [][]api.Linear{
			with(five, size, 0, 0), with(five, size, 3, 1), with(five, size, 7, 0), append(with(five, size, 0, 0), bad), append([]api.Linear{bad}, five),
			with(lin(make([]int, size)), size, 8, 0), with(bad, size, 8, 0), with(bad, size, 0, 5000), make([]api.Linear, 9),
			{lin(nil, make([][]int, 5)...)}, {lin([]int{-1}, make([][]int, 5000)...)},
		} {
			refused(t, d, set, api.ErrLong)
			for _, v := range [][]int{nil, {-1}, {61, 0}, {0, 0, 0, 0}} {
				refusedWith(t, d, set, v, -1, api.ErrLong)
				refusedPair(t, d, set, []api.Linear{bad}, api.ErrLong)
				refusedPair(t, d, []api.Linear{bad}, set, api.ErrLong)
			}
		}
	}
}

// d, and any number of a set, are refused before anything malformed.
func TestNumbersOutOfRange(t *testing.T) {
	malformed := []api.Linear{lin([]int{1, 2, 3, 4}), lin(nil, nil)}
	for _, d := range probe.Outside(1, api.MaxDims) {
		for _, set := range [][]api.Linear{nil, {lin([]int{1})}, malformed} {
			refused(t, d, set, api.ErrArg)
			refusedWith(t, d, set, nil, 5, api.ErrArg)
		}
	}
	for d := 1; d <= api.MaxDims; d++ {
		for _, x := range probe.Outside(0, api.MaxBase) {
			for at := range d {
				v := make([]int, d)
				v[at] = x
				for _, set := range wrong(v, d) {
					refused(t, d, set, api.ErrArg)
					refusedPair(t, d, set, malformed, api.ErrArg)
					refusedPair(t, d, malformed, set, api.ErrArg)
					refusedWith(t, d, set, nil, 21, api.ErrArg)
				}
			}
			// The vector that is malformed may have the number.
			for _, v := range [][]int{{0, 0, 0, x}, slices.Repeat([]int{x}, d+1)} {
				refused(t, d, []api.Linear{lin(v)}, api.ErrArg)
				refused(t, d, []api.Linear{lin(make([]int, d), v)}, api.ErrArg)
			}
		}
	}
}

// Vectors that have not d numbers are refused, at whatever place.
func TestMalformed(t *testing.T) {
	for d := 1; d <= api.MaxDims; d++ {
		for size := range 6 {
			if size == d {
				continue
			}
			for _, set := range wrong(make([]int, size), d) {
				refused(t, d, set, api.ErrForm)
				refusedWith(t, d, set, nil, 0, api.ErrForm)
			}
			good := []api.Linear{lin(make([]int, d))}
			if ok, e := count.Has(d, good, make([]int, size)); ok || e != api.ErrForm {
				t.Errorf("Has(%d, %v, %d numbers) = %t, %d", d, good, size, ok, e)
			}
			if ok, e := count.Has(d, nil, make([]int, size)); ok || e != api.ErrForm {
				t.Errorf("Has(%d, nothing, %d numbers) = %t, %d", d, size, ok, e)
			}
		}
		refused(t, d, make([]api.Linear, 1), api.ErrForm)
		refused(t, d, make([]api.Linear, 8), api.ErrForm)
	}
}

// The vector of Has and the sum n are refused with the numbers of the set.
func TestOtherNumbersOutOfRange(t *testing.T) {
	sets := [][]api.Linear{nil, {lin([]int{1, 2}, []int{1, 0})}, {lin([]int{1})}, {lin([]int{1, 2}, nil)}}
	for _, set := range sets {
		for _, x := range probe.Outside(0, api.MaxVector) {
			for _, v := range [][]int{{x, 0}, {60, x}, {x}, {0, 0, 0, x}} {
				if ok, e := count.Has(2, set, v); ok || e != api.ErrArg {
					t.Errorf("Has(2, %v, %v) = %t, %d", set, v, ok, e)
				}
			}
		}
		for _, n := range probe.Outside(0, 20) {
			if size, e := count.Count(2, set, n); size != 0 || e != api.ErrArg {
				t.Errorf("Count(2, %v, %d) = %d, %d", set, n, size, e)
			}
			for _, other := range sets {
				if v, e := count.Differ(2, set, other, n); len(v) != 0 || e != api.ErrArg {
					t.Errorf("Differ(2, %v, %v, %d) = %v, %d", set, other, n, v, e)
				}
			}
		}
	}
}

// Expressions are refused if they are too long, then because of the vector's
// numbers, then because of the form of either one.
func TestCodesRefused(t *testing.T) {
	long := []string{strings.Repeat("a", 31), "a" + strings.Repeat("*", 30), strings.Repeat(" ", 31), strings.Repeat("x", 5000), strings.Repeat("\xc3\xa4", 16)}
	for _, code := range long {
		for _, v := range [][]int{nil, {0, 0, 0}, {9, 0, 0}, {0, 0}} {
			refusedCode(t, code, v, api.ErrLong)
		}
	}
	for _, code := range []string{"a", "ab.*", "", "ab", "x", "a" + strings.Repeat("*", 29)} {
		for _, x := range probe.Outside(0, 8) {
			for _, v := range [][]int{{x, 0, 0}, {0, x, 0}, {8, 8, x}, {x}, {0, 0, 0, x}} {
				if ok, e := count.Accepts(code, v); ok || e != api.ErrArg {
					t.Errorf("Accepts(%q, %v) = %t, %d", code, v, ok, e)
				}
			}
		}
		for _, v := range [][]int{nil, {}, {0}, {0, 0}, {0, 0, 0, 0}, make([]int, 100)} {
			if ok, e := count.Accepts(code, v); ok || e != api.ErrForm {
				t.Errorf("Accepts(%q, %v) = %t, %d", code, v, ok, e)
			}
		}
	}
	malformed := []string{"", "*", ".", "+", "a.", "a+", ".ab", "ab", "abc.", "ab..", "aba*", "*a", "a b.", "A", "a\x00", "ab.\n", "\xff", "\xc3\xa4", "ab.c+*d", "a*b", "ee", strings.Repeat("a", 30), strings.Repeat("*", 30), "a" + strings.Repeat(".", 29)}
	for _, code := range malformed {
		refusedCode(t, code, []int{1, 0, 8}, api.ErrForm)
	}
	for letter := range 256 {
		one := string([]byte{byte(letter)})
		if !strings.Contains("abce", one) {
			refusedCode(t, one, []int{0, 0, 0}, api.ErrForm)
		}
		if !strings.Contains("abce.+*", one) {
			refusedCode(t, "a"+one+".*", []int{0, 0, 0}, api.ErrForm)
			refusedCode(t, "ab."+one, []int{0, 0, 0}, api.ErrForm)
		}
	}
}

// R4: nil and an empty slice are the same.
func TestEmptySets(t *testing.T) {
	for _, set := range [][]api.Linear{nil, {}} {
		for d := 1; d <= api.MaxDims; d++ {
			if has(t, d, set, make([]int, d)) || counted(t, d, set, 0) != 0 {
				t.Errorf("something is in %v", set)
			}
			one := []api.Linear{{Base: make([]int, d), Periods: [][]int{}}}
			if got, e := count.Sum(d, set, one); len(got) != 0 || e != api.OK {
				t.Errorf("Sum(%d, %v, 0) = %v, %d", d, set, got, e)
			}
			if got, e := count.Star(d, set); !sameSets(got, []api.Linear{lin(make([]int, d))}) || e != api.OK {
				t.Errorf("Star(%d, %v) = %v, %d", d, set, got, e)
			}
			if got, e := count.Differ(d, set, []api.Linear{}, 20); len(got) != 0 || e != api.ErrNone {
				t.Errorf("Differ(%d, %v, nothing) = %v, %d", d, set, got, e)
			}
			if got, e := count.Least(d, set); len(got) != 0 || e != api.ErrNone {
				t.Errorf("Least(%d, %v) = %v, %d", d, set, got, e)
			}
		}
	}
}

// R1: the functions end, and do not panic, for whatever numbers there are.
func TestStrangeArguments(t *testing.T) {
	random := rand.New(rand.NewSource(31))
	numbers := []int{math.MinInt, math.MinInt32, -1, 0, 0, 1, 2, 20, 20, 21, 60, 61, math.MaxInt32, math.MaxInt}
	list := func() []int {
		v := make([]int, []int{0, 1, 2, 3, 3, 4}[random.Intn(6)])
		for i := range v {
			v[i] = numbers[random.Intn(len(numbers))]
		}
		return v
	}
	sets := func() []api.Linear {
		set := make([]api.Linear, random.Intn(10))
		for i := range set {
			set[i] = lin(list(), list(), list(), list())
		}
		return set
	}
	for range 20000 {
		d, n, x, y := random.Intn(5), numbers[random.Intn(len(numbers))], sets(), sets()
		count.Has(d, x, list())
		count.Count(d, x, n)
		count.Differ(d, x, y, n)
		count.Sum(d, x, y)
		count.Star(d, x)
		count.Least(d, x)
		count.Accepts(randomCode(random, 1+random.Intn(33), "abcex"), list())
	}
}

// outcome is what any of the functions returns but its numbers, and those.
type outcome struct {
	vectors [][]int
	sets    []api.Linear
	number  int
	e       api.Errno
}

// calls are one call of each function that has sets.
func calls() map[string]func(x, y []api.Linear, v []int) outcome {
	return map[string]func(x, y []api.Linear, v []int) outcome{
		"Has": func(x, _ []api.Linear, v []int) outcome {
			ok, e := count.Has(2, x, v)
			return outcome{number: map[bool]int{true: 1}[ok], e: e}
		},
		"Count": func(x, _ []api.Linear, _ []int) outcome {
			n, e := count.Count(2, x, 12)
			return outcome{number: n, e: e}
		},
		"Differ": func(x, y []api.Linear, _ []int) outcome {
			v, e := count.Differ(2, x, y, 20)
			return outcome{vectors: [][]int{v}, e: e}
		},
		"Sum":  func(x, y []api.Linear, _ []int) outcome { s, e := count.Sum(2, x, y); return outcome{sets: s, e: e} },
		"Star": func(x, _ []api.Linear, _ []int) outcome { s, e := count.Star(2, x); return outcome{sets: s, e: e} },
		"Least": func(x, _ []api.Linear, _ []int) outcome {
			v, e := count.Least(2, x)
			return outcome{vectors: [][]int{v}, e: e}
		},
		"Accepts": func(_, _ []api.Linear, v []int) outcome {
			ok, e := count.Accepts("ab+*c*.", append(v[:2:2], 3))
			return outcome{number: map[bool]int{true: 1}[ok], e: e}
		},
		"Image": func(_, _ []api.Linear, _ []int) outcome {
			s, e := count.Image("ab.*cc.+")
			return outcome{sets: s, e: e}
		},
	}
}

// roomy copies a list so that there is room behind its end, filled with spare.
func roomy[T any](list []T, spare T) []T {
	copied := append(slices.Clone(list), spare, spare, spare)
	return copied[:len(list)]
}

// copied copies a set; every slice of it has room behind its end.
func copied(set []api.Linear) []api.Linear {
	var all []api.Linear
	for _, l := range set {
		var periods [][]int
		for _, p := range l.Periods {
			periods = append(periods, roomy(p, 17))
		}
		all = append(all, api.Linear{Base: roomy(l.Base, 17), Periods: roomy(periods, []int{17})})
	}
	return roomy(all, lin([]int{17}))
}

// rows are all lists of numbers of a set, with the room behind their ends.
func rows(sets []api.Linear) [][]int {
	var all [][]int
	for _, l := range sets[:cap(sets)] {
		all = append(all, l.Base[:cap(l.Base)])
		for _, p := range l.Periods[:cap(l.Periods)] {
			all = append(all, p[:cap(p)])
		}
	}
	return all
}

func clones(rows [][]int) [][]int {
	var all [][]int
	for _, row := range rows {
		all = append(all, slices.Clone(row))
	}
	return all
}

// overwrite fills each row with a number of its own, and says whether it is
// still there when all are filled: if not, two rows share memory.
func overwrite(rows [][]int) bool {
	for i, row := range rows {
		for k := range row {
			row[k] = 1000 + i
		}
	}
	for i, row := range rows {
		if slices.ContainsFunc(row, func(x int) bool { return x != 1000+i }) {
			return false
		}
	}
	return true
}

func (o outcome) rows() [][]int { return append(rows(o.sets), o.vectors...) }

func (o outcome) equal(p outcome) bool {
	return sameSets(o.sets, p.sets) && slices.EqualFunc(o.vectors, p.vectors, slices.Equal) && o.number == p.number && o.e == p.e
}

// R5: arguments stay as they are, results are new memory, also one part of a
// result beside another. R6: what is behind the end of a slice does not matter.
func TestArgumentsAndResults(t *testing.T) {
	first := []api.Linear{lin([]int{1, 3}, []int{1, 0}), lin([]int{2, 1}, []int{0, 2})}
	second := []api.Linear{lin([]int{0, 2}, []int{3, 1}), lin([]int{2, 2}, []int{1, 1}, []int{1, 1})}
	for name, call := range calls() {
		x, y, v := copied(first), copied(second), roomy([]int{5, 3}, 17)
		given := slices.Concat(rows(x), rows(y), [][]int{v[:cap(v)]})
		before := clones(given)
		result := call(x, y, v)
		if result.e != api.OK {
			t.Errorf("%s: %d", name, result.e)
		}
		if !slices.EqualFunc(given, before, slices.Equal) {
			t.Errorf("%s changes its arguments: %v, then %v", name, before, given)
		}
		want := outcome{clones(result.vectors), slices.Clip(copied(result.sets)), result.number, result.e}
		for _, row := range given {
			clear(row)
		}
		clear(x[:cap(x)])
		clear(y[:cap(y)])
		if !result.equal(want) {
			t.Errorf("%s returns a part of its arguments", name)
		}
		if !overwrite(result.rows()) {
			t.Errorf("%s returns the same memory twice", name)
		}
		if again := call(first, second, []int{5, 3}); !again.equal(want) {
			t.Errorf("%s returns %v, then %v", name, want, again)
		}
	}
}

// R6: the same arguments have the same results, whatever was called before.
func TestCallsDoNotMatterToEachOther(t *testing.T) {
	random := rand.New(rand.NewSource(32))
	for range 100 {
		x, y, v := randomSet(random, 2, 2, 1, 4), randomSet(random, 2, 2, 1, 4), randomVector(random, 2, 8)
		results := map[string]outcome{}
		for name, call := range calls() {
			results[name] = call(x, y, v)
		}
		for range 5 {
			for name, call := range calls() {
				if got := call(x, y, v); !got.equal(results[name]) {
					t.Fatalf("%s(%v, %v, %v) = %v, then %v", name, x, y, v, results[name], got)
				}
				call(y, append(x, lin(nil)), []int{1, 1})
			}
		}
	}
}
