package weigh_test

import (
	"math"
	"slices"
	"testing"

	"bellpull/api"
	"bellpull/probe"
	"bellpull/weigh"
)

// sequence is Conway and Guy's sequence up to its greatest term, by definition.
func sequence() []int {
	u := []int{0, 1}
	for n := 1; n < api.MaxGuy; n++ {
		r := int(math.Round(math.Sqrt(float64(2 * n))))
		u = append(u, 2*u[n]-u[n-r])
	}
	return u
}

func TestGuy(t *testing.T) {
	known := []int{0, 1, 2, 4, 7, 13, 24, 44, 84, 161, 309, 594, 1164, 2284, 4484, 8807, 17305, 34301, 68008, 134852, 267420}
	for n, want := range sequence() {
		got, e := weigh.Guy(n)
		if got != want || e != api.OK || n < len(known) && got != known[n] {
			t.Errorf("Guy(%d) = %d, %d, want %d", n, got, e, want)
		}
	}
	if got, e := weigh.Guy(60); got != 272410968267083196 || e != api.OK {
		t.Errorf("Guy(60) = %d, %d", got, e)
	}
}

// H2, and the chapter's example.
func TestSet(t *testing.T) {
	u := sequence()
	for n := 1; n <= api.MaxWeights; n++ {
		got, e := weigh.Set(n)
		var want []int
		for i := range n {
			want = append(want, u[n]-u[i])
		}
		slices.Sort(want)
		if !slices.Equal(got, want) || e != api.OK {
			t.Errorf("Set(%d) = %v, %d, want %v", n, got, e, want)
		}
		if !distinct(t, got) {
			t.Errorf("Set(%d) = %v is not distinct", n, got)
		}
	}
	if got, e := weigh.Set(4); !slices.Equal(got, []int{3, 5, 6, 7}) || e != api.OK {
		t.Errorf("Set(4) = %v, %d", got, e)
	}
}

// H3, and all lists of numbers up to the greatest one.
func TestBest(t *testing.T) {
	greatest := []int{0, 1, 2, 4, 7, 13}
	for n := 1; n <= 5; n++ {
		got, e := weigh.Best(n)
		if e != api.OK || len(got) != n || got[n-1] != greatest[n] || !distinct(t, got) {
			t.Fatalf("Best(%d) = %v, %d", n, got, e)
		}
		for list := range probe.Lists(n, 1, got[n-1]) {
			if !isRising(list) || list[n-1] == got[n-1] && slices.Compare(list, got) >= 0 {
				continue
			}
			if _, _, same := clashOf(partsOf(list)); !same {
				t.Fatalf("Best(%d) = %v, but %v is better", n, got, list)
			}
		}
	}
	for n, want := range [][]int{1: {1}, 2: {1, 2}, 3: {1, 2, 4}, 4: {3, 5, 6, 7}, 5: {3, 6, 11, 12, 13}} {
		if got, _ := weigh.Best(n); n > 0 && !slices.Equal(got, want) {
			t.Errorf("Best(%d) = %v", n, got)
		}
	}
}

func TestNumbersOutOfRange(t *testing.T) {
	for _, n := range probe.Outside(0, 60) {
		if got, e := weigh.Guy(n); got != 0 || e != api.ErrArg {
			t.Errorf("Guy(%d) = %d, %d", n, got, e)
		}
	}
	for _, n := range append(probe.Outside(1, 12), 60) {
		if got, e := weigh.Set(n); len(got) != 0 || e != api.ErrArg {
			t.Errorf("Set(%d) = %v, %d", n, got, e)
		}
	}
	for _, n := range append(probe.Outside(1, 5), 12, 60) {
		if got, e := weigh.Best(n); len(got) != 0 || e != api.ErrArg {
			t.Errorf("Best(%d) = %v, %d", n, got, e)
		}
	}
}

// R5: results are new memory, and what is done to them changes no later one.
func TestListsAreNew(t *testing.T) {
	calls := map[string]func(n int) ([]int, api.Errno){"Set": weigh.Set, "Best": weigh.Best}
	for name, call := range calls {
		for n := 1; n <= 5; n++ {
			list, _ := call(n)
			want := slices.Clone(list)
			for i := range list {
				list[i] = -5
			}
			if got, e := call(n); !slices.Equal(got, want) || e != api.OK {
				t.Errorf("%s(%d) = %v, then %v, %d", name, n, want, got, e)
			}
		}
	}
}
