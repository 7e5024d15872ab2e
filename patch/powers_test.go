package patch_test

import (
	"math/rand"
	"slices"
	"strings"
	"testing"

	"bellpull/api"
	"bellpull/patch"
	"bellpull/probe"
)

// settings makes a string of the letters 0 and 1.
func settings(numbers []int) string {
	var letters strings.Builder
	for _, x := range numbers {
		letters.WriteByte("01"[x])
	}
	return letters.String()
}

// checkApply compares Apply with the ways of the messages, one by one.
func checkApply(t *testing.T, k int, s string) []int {
	t.Helper()
	perm := apply(t, k, s)
	if len(perm) != 1<<k {
		t.Fatalf("Apply(%d, %q) = %v", k, s, perm)
	}
	for input, output := range perm {
		if output != traced(k, s, input) {
			t.Fatalf("Apply(%d, %q) = %v at %d", k, s, perm, input)
		}
	}
	return perm
}

// The chapter's second example.
func TestBenesExamples(t *testing.T) {
	if got := apply(t, 2, "000000"); !slices.Equal(got, []int{0, 1, 2, 3}) {
		t.Errorf("Apply(2, 000000) = %v", got)
	}
	if got, e := patch.Ways(2, []int{0, 1, 2, 3}); got != 4 || e != api.OK {
		t.Errorf("Ways(2, [0 1 2 3]) = %d, %d", got, e)
	}
	if got, e := patch.Waksman(3); got != 17 || e != api.OK {
		t.Errorf("Waksman(3) = %d, %d", got, e)
	}
}

// One crossed switch, at each place: what it exchanges was found by hand.
func TestApplyWithOneCrossedSwitch(t *testing.T) {
	exchanged := [][][2]int{
		1: {{0, 1}},
		2: {{0, 1}, {2, 3}, {0, 2}, {1, 3}, {0, 1}, {2, 3}},
		3: {{0, 1}, {2, 3}, {4, 5}, {6, 7},
			{0, 2}, {4, 6}, {0, 4}, {2, 6}, {0, 2}, {4, 6},
			{1, 3}, {5, 7}, {1, 5}, {3, 7}, {1, 3}, {5, 7},
			{0, 1}, {2, 3}, {4, 5}, {6, 7}},
	}
	for k := 1; k <= 3; k++ {
		if got := apply(t, k, strings.Repeat("0", numbers(k))); !slices.Equal(got, probe.Identity(1<<k)) {
			t.Errorf("Apply(%d, straight) = %v", k, got)
		}
		for at, two := range exchanged[k] {
			places := make([]int, numbers(k))
			places[at] = 1
			want := probe.Identity(1 << k)
			want[two[0]], want[two[1]] = two[1], two[0]
			if got := checkApply(t, k, settings(places)); !slices.Equal(got, want) {
				t.Errorf("Apply(%d, %s) = %v, want %v", k, settings(places), got, want)
			}
		}
	}
}

func TestApplyOfAllSettings(t *testing.T) {
	for k := 1; k <= 2; k++ {
		for places := range probe.Lists(numbers(k), 0, 1) {
			checkApply(t, k, settings(places))
		}
	}
	random := rand.New(rand.NewSource(65))
	for range 50000 {
		checkApply(t, 3, settings(randomNumbers(random, numbers(3), 2)))
	}
}

// F3, for all permutations.
func TestSetOfAllPermutations(t *testing.T) {
	for k := 1; k <= 3; k++ {
		for perm := range probe.Perms(1 << k) {
			s, e := patch.Set(k, perm)
			if e != api.OK || len(s) != numbers(k) || strings.Trim(s, "01") != "" {
				t.Fatalf("Set(%d, %v) = %q, %d", k, perm, s, e)
			}
			if got := checkApply(t, k, s); !slices.Equal(got, perm) {
				t.Fatalf("Apply(%d, %q) = %v, want %v", k, s, got, perm)
			}
		}
	}
}

// F4, and the number for each permutation.
func TestWays(t *testing.T) {
	for k := 1; k <= 2; k++ {
		total := 0
		for perm := range probe.Perms(1 << k) {
			want := 0
			for places := range probe.Lists(numbers(k), 0, 1) {
				fits := true
				for input, output := range perm {
					fits = fits && traced(k, settings(places), input) == output
				}
				if fits {
					want++
				}
			}
			got, e := patch.Ways(k, perm)
			if got != want || got == 0 || e != api.OK {
				t.Errorf("Ways(%d, %v) = %d, %d, want %d", k, perm, got, e, want)
			}
			total += got
		}
		if total != []int{1: 2, 2: 64}[k] {
			t.Errorf("the ways for k %d sum to %d", k, total)
		}
	}
}

// Waksman's network is a Beneš network without one switch of each last column.
func TestWaksman(t *testing.T) {
	want := 1
	for k := 1; k <= 20; k++ {
		if got, e := patch.Waksman(k); got != want || e != api.OK {
			t.Errorf("Waksman(%d) = %d, %d, want %d", k, got, e, want)
		}
		want = 1<<k + 2*want + 1<<k - 1
	}
}

// F5, and whether each permutation is passed.
func TestOmega(t *testing.T) {
	for k := 1; k <= 3; k++ {
		passed := 0
		for perm := range probe.Perms(1 << k) {
			got, e := patch.Omega(k, perm)
			if got != passes(k, perm) || e != api.OK {
				t.Fatalf("Omega(%d, %v) = %t, %d", k, perm, got, e)
			}
			if got {
				passed++
			}
		}
		if passed != []int{1: 2, 2: 16, 3: 4096}[k] {
			t.Errorf("the omega network for k %d passes %d permutations", k, passed)
		}
		if got, e := patch.Omega(k, probe.Identity(1<<k)); !got || e != api.OK {
			t.Errorf("Omega(%d, identity) = %t, %d", k, got, e)
		}
	}
}

// Found by hand, with those that collide after one stage only: for k 3, from 0
// to 0 and from 4 to 2 on the line 000 after the first stage, and from 0 to 0 and
// from 2 to 1 there after the second one.
func TestOmegaByHand(t *testing.T) {
	cases := []struct {
		k      int
		perm   []int
		passes bool
	}{
		{1, []int{1, 0}, true},
		{2, []int{0, 2, 1, 3}, false},
		{2, []int{3, 2, 1, 0}, true},
		{2, []int{0, 2, 3, 1}, true},
		{3, []int{0, 1, 4, 5, 2, 3, 6, 7}, false},
		{3, []int{0, 2, 1, 3, 4, 6, 5, 7}, false},
		{3, []int{1, 2, 3, 4, 5, 6, 7, 0}, true},
	}
	for _, c := range cases {
		if got, e := patch.Omega(c.k, c.perm); got != c.passes || e != api.OK {
			t.Errorf("Omega(%d, %v) = %t, %d", c.k, c.perm, got, e)
		}
	}
}
