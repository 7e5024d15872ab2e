package probe_test

import (
	"slices"
	"testing"

	"bellpull/probe"
)

func TestOutside(t *testing.T) {
	for _, x := range probe.Outside(-3, 200000) {
		if -3 <= x && x <= 200000 {
			t.Errorf("%d is inside", x)
		}
	}
	if all := probe.Outside(1, 9); !slices.Contains(all, 0) || !slices.Contains(all, 10) {
		t.Errorf("Outside(1, 9) = %v leaves out a neighbour", all)
	}
}

func TestLists(t *testing.T) {
	all := slices.Collect(probe.Lists(2, 1, 3))
	want := [][]int{{1, 1}, {1, 2}, {1, 3}, {2, 1}, {2, 2}, {2, 3}, {3, 1}, {3, 2}, {3, 3}}
	if !slices.EqualFunc(all, want, slices.Equal) {
		t.Errorf("Lists(2, 1, 3) = %v", all)
	}
	if none := slices.Collect(probe.Lists(0, 1, 3)); len(none) != 1 || len(none[0]) != 0 {
		t.Errorf("Lists(0, 1, 3) = %v", none)
	}
	for list := range probe.Lists(3, 0, 5) {
		if list[1] == 1 {
			return
		}
	}
	t.Error("Lists ends too early")
}

func TestPerms(t *testing.T) {
	all := slices.Collect(probe.Perms(3))
	want := [][]int{{0, 1, 2}, {0, 2, 1}, {1, 0, 2}, {1, 2, 0}, {2, 0, 1}, {2, 1, 0}}
	if !slices.EqualFunc(all, want, slices.Equal) {
		t.Errorf("Perms(3) = %v", all)
	}
	if got := probe.Identity(3); !slices.Equal(got, want[0]) {
		t.Errorf("Identity(3) = %v", got)
	}
	for perm := range probe.Perms(3) {
		if perm[0] == 1 {
			return
		}
	}
	t.Error("Perms ends too early")
}

func TestBadPerms(t *testing.T) {
	for size := 1; size <= 4; size++ {
		bad := probe.BadPerms(size)
		for perm := range probe.Perms(size) {
			for _, other := range bad {
				if slices.Equal(perm, other) {
					t.Errorf("BadPerms(%d) has %v", size, perm)
				}
			}
		}
		short := func(list []int) bool { return len(list) < size }
		same := func(list []int) bool { return len(list) == size && size > 1 && list[0] == list[1] }
		if !slices.ContainsFunc(bad, short) || slices.ContainsFunc(bad, same) != (size > 1) {
			t.Errorf("BadPerms(%d) = %v leaves out a kind", size, bad)
		}
	}
}

func TestMemory(t *testing.T) {
	var kept []int
	calls := map[string]func(list []int) []int{
		"":                               func(l []int) []int { return slices.Clone(l) },
		"returns nothing":                func([]int) []int { return nil },
		"changes its argument":           func(l []int) []int { return append(l, 5) },
		"returns a part of its argument": func(l []int) []int { return l[1:] },
		"returns something else for the same argument": func(l []int) []int {
			if kept == nil {
				kept = slices.Clone(l)
			}
			return kept
		},
	}
	for want, call := range calls {
		if got := probe.Memory([]int{1, 2, 3}, 7, call); got != want {
			t.Errorf("what is wrong: %q, want %q", got, want)
		}
	}
	byCapacity := func(l []int) []int { return []int{cap(l)} }
	if got := probe.Memory([]int{1, 2, 3}, 7, byCapacity); got == "" {
		t.Error("a result that depends on a capacity is not found")
	}
	held := []int{}
	holding := func(l []int) []int {
		if len(held) == 0 {
			held = l
		}
		return slices.Clone(held)
	}
	if got := probe.Memory([]int{1, 2, 3}, 7, holding); got == "" {
		t.Error("an argument that is kept is not found")
	}
}
