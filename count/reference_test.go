package count_test

import (
	"math/rand"
	"slices"
	"strings"
	"testing"

	"bellpull/api"
	"bellpull/count"
	"bellpull/probe"
)

// The references below follow the definitions of the chapter word by word, and
// share no code with the package.

// lin makes a linear set of its base and its periods.
func lin(base []int, periods ...[]int) api.Linear { return api.Linear{Base: base, Periods: periods} }

func total(v []int) int {
	sum := 0
	for _, x := range v {
		sum += x
	}
	return sum
}

func plus(v, w []int) []int {
	sum := slices.Clone(v)
	for i, x := range w {
		sum[i] += x
	}
	return sum
}

func minus(v, w []int) []int {
	rest := slices.Clone(v)
	for i, x := range w {
		rest[i] -= x
	}
	return rest
}

func natural(v []int) bool { return !slices.ContainsFunc(v, func(x int) bool { return x < 0 }) }

// box says of all vectors of d numbers up to high whether they are in a set.
type box struct {
	d, high int
	in      []bool
}

func emptyBox(d, high int) box {
	size := 1
	for range d {
		size *= high + 1
	}
	return box{d, high, make([]bool, size)}
}

func (b box) index(v []int) int {
	i := 0
	for _, x := range v {
		i = i*(b.high+1) + x
	}
	return i
}

func (b box) has(v []int) bool { return natural(v) && b.in[b.index(v)] }

// boxOf finds a vector in a linear set if it is the base, or if it is one of
// the set plus a period. That one comes before it in the lists.
func boxOf(d int, set []api.Linear, high int) box {
	all := emptyBox(d, high)
	for _, l := range set {
		one := emptyBox(d, high)
		for v := range probe.Lists(d, 0, high) {
			in := slices.Equal(v, l.Base)
			for _, p := range l.Periods {
				in = in || total(p) > 0 && one.has(minus(v, p))
			}
			one.in[one.index(v)] = in
			all.in[all.index(v)] = all.in[all.index(v)] || in
		}
	}
	return all
}

// before compares vectors by sums, and those of one sum lexicographically.
func before(v, w []int) bool {
	if total(v) != total(w) {
		return total(v) < total(w)
	}
	return slices.Compare(v, w) < 0
}

// sumOf is Sum by its definition; the second result is whether it is valid.
func sumOf(x, y []api.Linear) ([]api.Linear, bool) {
	var sums []api.Linear
	for _, a := range x {
		for _, b := range y {
			sums = append(sums, lin(plus(a.Base, b.Base), slices.Concat(a.Periods, b.Periods)...))
		}
	}
	return sums, isValid(sums)
}

// starOf is Star by its definition: the numbers of subsets are counted in binary.
func starOf(d int, x []api.Linear) ([]api.Linear, bool) {
	stars := []api.Linear{lin(make([]int, d))}
	chosen := make([]bool, len(x)+1)
	for {
		i := 0
		for chosen[i] {
			chosen[i] = false
			i++
		}
		chosen[i] = true
		if i == len(x) {
			return stars, isValid(stars)
		}
		next := lin(make([]int, d))
		for j, l := range x {
			if chosen[j] {
				next.Base = plus(next.Base, l.Base)
				next.Periods = slices.Concat(next.Periods, [][]int{l.Base}, l.Periods)
			}
		}
		stars = append(stars, next)
	}
}

func isValid(set []api.Linear) bool {
	for _, l := range set {
		for _, v := range append(slices.Clone(l.Periods), l.Base) {
			if !natural(v) || slices.Max(v) > api.MaxBase {
				return false
			}
		}
		if len(l.Periods) > api.MaxPeriods {
			return false
		}
	}
	return len(set) <= api.MaxLinear
}

// tree is an expression: its last letter, and the trees that it combines.
type tree struct {
	letter byte
	parts  []tree
}

// parse reads an expression from its end. It returns what is before the tree.
func parse(code string) (tree, string, bool) {
	if code == "" {
		return tree{}, "", false
	}
	rest, letter := code[:len(code)-1], code[len(code)-1]
	parts := map[byte]int{'*': 1, '.': 2, '+': 2}[letter]
	if !strings.ContainsRune("abce.+*", rune(letter)) {
		return tree{}, "", false
	}
	root := tree{letter, make([]tree, parts)}
	for i := range root.parts {
		part, before, ok := parse(rest)
		if !ok {
			return tree{}, "", false
		}
		root.parts[parts-1-i], rest = part, before
	}
	return root, rest, true
}

// treeOf returns the tree of an expression that is all of the string, or none.
func treeOf(code string) (tree, bool) {
	root, rest, ok := parse(code)
	return root, ok && rest == ""
}

// words returns the words of the language that have at most long letters.
func (r tree) words(long int) map[string]bool {
	all := map[string]bool{}
	switch r.letter {
	case 'e':
		all[""] = true
	case '.':
		all = joined(r.parts[0].words(long), r.parts[1].words(long), long)
	case '+':
		all = r.parts[0].words(long)
		for word := range r.parts[1].words(long) {
			all[word] = true
		}
	case '*':
		one := r.parts[0].words(long)
		all[""] = true
		for size := 0; size < len(all); {
			size = len(all)
			for word := range joined(all, one, long) {
				all[word] = true
			}
		}
	default:
		all[string(r.letter)] = true
	}
	for word := range all {
		if len(word) > long {
			delete(all, word)
		}
	}
	return all
}

// joined returns the concatenations that have at most long letters.
func joined(x, y map[string]bool, long int) map[string]bool {
	all := map[string]bool{}
	for v := range x {
		for w := range y {
			if len(v)+len(w) <= long {
				all[v+w] = true
			}
		}
	}
	return all
}

// imageOf counts the letters of a word.
func imageOf(word string) [3]int {
	return [3]int{strings.Count(word, "a"), strings.Count(word, "b"), strings.Count(word, "c")}
}

// image builds a semilinear set as the chapter says; the second result is
// whether all sets on the way are valid.
func (r tree) image() ([]api.Linear, bool) {
	var sets [][]api.Linear
	for _, part := range r.parts {
		set, ok := part.image()
		if !ok {
			return nil, false
		}
		sets = append(sets, set)
	}
	switch r.letter {
	case '.':
		return sumOf(sets[0], sets[1])
	case '+':
		set := slices.Concat(sets[0], sets[1])
		return set, isValid(set)
	case '*':
		return starOf(3, sets[0])
	}
	of := imageOf(string(r.letter))
	return []api.Linear{lin(of[:])}, true
}

// randomCode makes an expression of size letters, which are among those given.
func randomCode(random *rand.Rand, size int, letters string) string {
	switch {
	case size == 1:
		return string(letters[random.Intn(len(letters))])
	case size == 2 || random.Intn(3) == 0:
		return randomCode(random, size-1, letters) + "*"
	}
	left := 1 + random.Intn(size-2)
	return randomCode(random, left, letters) + randomCode(random, size-1-left, letters) + string(".+"[random.Intn(2)])
}

// randomVector makes d numbers up to high, most of which are small.
func randomVector(random *rand.Rand, d, high int) []int {
	v := make([]int, d)
	for i := range v {
		v[i] = random.Intn(1 + random.Intn(high+1))
	}
	return v
}

// randomSet makes as many linear sets, with up to some periods each.
func randomSet(random *rand.Rand, d, size, periods, high int) []api.Linear {
	var set []api.Linear
	for range size {
		l := lin(randomVector(random, d, high))
		for range random.Intn(periods + 1) {
			l.Periods = append(l.Periods, randomVector(random, d, high))
		}
		set = append(set, l)
	}
	return set
}

// someSets yields random sets of all sizes in 1 to 3 dimensions.
func someSets(seed int64, rounds int, check func(d int, set []api.Linear)) {
	random := rand.New(rand.NewSource(seed))
	for round := range rounds {
		d := 1 + round%api.MaxDims
		high := []int{1, 2, 3, 5, 9, api.MaxBase}[random.Intn(6)]
		check(d, randomSet(random, d, random.Intn(api.MaxLinear+1), api.MaxPeriods, high))
	}
}

// The functions, with arguments that they may not refuse.

func has(t *testing.T, d int, set []api.Linear, v []int) bool {
	t.Helper()
	ok, e := count.Has(d, set, v)
	if e != api.OK {
		t.Fatalf("Has(%d, %v, %v): %d", d, set, v, e)
	}
	return ok
}

func counted(t *testing.T, d int, set []api.Linear, n int) int {
	t.Helper()
	size, e := count.Count(d, set, n)
	if e != api.OK {
		t.Fatalf("Count(%d, %v, %d): %d", d, set, n, e)
	}
	return size
}

func accepts(t *testing.T, code string, v []int) bool {
	t.Helper()
	ok, e := count.Accepts(code, v)
	if e != api.OK {
		t.Fatalf("Accepts(%q, %v): %d", code, v, e)
	}
	return ok
}

// sameSets compares results; nil and an empty slice are the same.
func sameSets(x, y []api.Linear) bool {
	return slices.EqualFunc(x, y, func(a, b api.Linear) bool {
		return slices.Equal(a.Base, b.Base) && slices.EqualFunc(a.Periods, b.Periods, slices.Equal)
	})
}
