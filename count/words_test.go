package count_test

import (
	"math/rand"
	"slices"
	"strings"
	"testing"

	"bellpull/api"
	"bellpull/count"
	"bellpull/probe"
)

// checkAccepts compares Accepts with the words of the language that have at
// most long letters.
func checkAccepts(t *testing.T, code string, long int) {
	t.Helper()
	root, ok := treeOf(code)
	if !ok {
		t.Fatalf("%q is no expression", code)
	}
	images := map[[3]int]bool{}
	for word := range root.words(long) {
		images[imageOf(word)] = true
	}
	for v := range probe.Lists(3, 0, min(long, 8)) {
		if total(v) <= long && accepts(t, code, v) != images[[3]int(v)] {
			t.Fatalf("Accepts(%q, %v) = %t", code, v, !images[[3]int(v)])
		}
	}
}

// checkImage compares Image with its definition, and with Accepts: E3.
func checkImage(t *testing.T, code string, vectors [][]int) {
	t.Helper()
	root, _ := treeOf(code)
	want, valid := root.image()
	got, e := count.Image(code)
	if !valid {
		if len(got) != 0 || e != api.ErrFull {
			t.Fatalf("Image(%q) = %v, %d", code, got, e)
		}
		return
	}
	if !sameSets(got, want) || e != api.OK {
		t.Fatalf("Image(%q) = %v, %d, want %v", code, got, e, want)
	}
	for _, v := range vectors {
		if has(t, 3, got, v) != accepts(t, code, v) {
			t.Fatalf("Accepts(%q, %v) = %t, the image is %v", code, v, accepts(t, code, v), got)
		}
	}
}

// codes yields the strings of some letters up to a length.
func codes(letters string, long int, check func(code string)) {
	for size := range long + 1 {
		for list := range probe.Lists(size, 0, len(letters)-1) {
			code := make([]byte, size)
			for i, k := range list {
				code[i] = letters[k]
			}
			check(string(code))
		}
	}
}

// Every string is refused or an expression, and those are as they are defined.
func TestAllShortCodes(t *testing.T) {
	near := slices.Collect(probe.Lists(3, 0, 2))
	codes("abce.+*d", 5, func(code string) {
		if _, ok := treeOf(code); ok {
			checkAccepts(t, code, 4)
			checkImage(t, code, near)
			return
		}
		refusedCode(t, code, []int{0, 0, 0}, api.ErrForm)
	})
	codes("ab.+*", 7, func(code string) {
		if _, ok := treeOf(code); ok {
			checkImage(t, code, near[:9])
			return
		}
		refusedCode(t, code, []int{0, 8, 0}, api.ErrForm)
	})
}

func TestRandomCodes(t *testing.T) {
	random := rand.New(rand.NewSource(21))
	far := [][]int{{8, 8, 8}, {8, 0, 0}, {0, 8, 8}, {7, 8, 5}}
	for range 60 {
		far = append(far, randomVector(random, 3, 8))
	}
	for round := range 600 {
		size := 1 + random.Intn(api.MaxCode)
		checkAccepts(t, randomCode(random, size, "abce"), 4)
		checkAccepts(t, randomCode(random, size, "bc"), 6)
		checkAccepts(t, randomCode(random, size, "ae"), 12)
		checkImage(t, randomCode(random, 1+round%14, "abce"), far)
	}
}

// acceptedBox says of all vectors up to high whether Accepts accepts them.
func acceptedBox(t *testing.T, code string, high int) box {
	all := emptyBox(3, high)
	for v := range probe.Lists(3, 0, high) {
		all.in[all.index(v)] = accepts(t, code, v)
	}
	return all
}

// checkCombined says of all vectors up to high that Accepts finds sums and
// multiples, without words: they may be long.
func checkCombined(t *testing.T, x, y string, high int) {
	t.Helper()
	inX, inY := acceptedBox(t, x, high), acceptedBox(t, y, high)
	both, either, repeated := acceptedBox(t, x+y+".", high), acceptedBox(t, x+y+"+", high), acceptedBox(t, x+"*", high)
	for v := range probe.Lists(3, 0, high) {
		sum, multiple := false, total(v) == 0
		for u := range probe.Lists(3, 0, high) {
			sum = sum || inX.has(u) && inY.has(minus(v, u))
			multiple = multiple || total(u) > 0 && inX.has(u) && repeated.has(minus(v, u))
		}
		if both.has(v) != sum || either.has(v) != (inX.has(v) || inY.has(v)) || repeated.has(v) != multiple {
			t.Fatalf("Accepts(%q or %q, %v): %t, %t, %t", x, y, v, both.has(v), either.has(v), repeated.has(v))
		}
	}
}

func TestCombinedCodes(t *testing.T) {
	random := rand.New(rand.NewSource(22))
	for range 60 {
		x, y := randomCode(random, 1+random.Intn(14), "abce"), randomCode(random, 1+random.Intn(14), "abce")
		checkCombined(t, x, y, 3)
	}
	checkCombined(t, "aab..bbc..+", "c*ab.*.", 5)
	checkCombined(t, "aaaa...", "bb.*a.*", 8)
}

// E6: the images of two orders are the same, as sets and as Accepts finds them.
func TestOrderOfOperands(t *testing.T) {
	random := rand.New(rand.NewSource(23))
	compared := 0
	for round := range 400 {
		x, y := randomCode(random, 1+random.Intn(9), "abce"), randomCode(random, 1+random.Intn(9), "abce")
		letter := string(".+"[round%2])
		one, e := count.Image(x + y + letter)
		other, e2 := count.Image(y + x + letter)
		if e != e2 {
			t.Fatalf("Image(%q): %d, the other way round: %d", x+y+letter, e, e2)
		}
		if e == api.OK {
			compared++
			if v, e := count.Differ(3, one, other, 12); e != api.ErrNone {
				t.Fatalf("Image(%q) and the other way round differ: %v, %d", x+y+letter, v, e)
			}
		}
		for range 20 {
			v := randomVector(random, 3, 8)
			if accepts(t, x+y+letter, v) != accepts(t, y+x+letter, v) {
				t.Fatalf("Accepts(%q, %v) is not the same the other way round", x+y+letter, v)
			}
		}
	}
	if compared < 100 {
		t.Errorf("only %d images are valid", compared)
	}
}

// Examples 2 and 3, example 5 of the document, and others found by hand.
func TestCodesOfTheDocument(t *testing.T) {
	cases := []struct {
		code string
		yes  [][]int
		no   [][]int
	}{
		{"ab.*", [][]int{{2, 2, 0}, {0, 0, 0}, {8, 8, 0}}, [][]int{{2, 1, 0}, {1, 1, 1}, {8, 7, 0}}},
		{"a*b+", [][]int{{0, 1, 0}, {0, 0, 0}, {8, 0, 0}}, [][]int{{1, 1, 0}, {0, 2, 0}}},
		{"a", [][]int{{1, 0, 0}}, [][]int{{0, 0, 0}, {0, 1, 0}, {2, 0, 0}}},
		{"c", [][]int{{0, 0, 1}}, [][]int{{0, 0, 0}, {0, 0, 2}, {1, 0, 1}}},
		{"e", [][]int{{0, 0, 0}}, [][]int{{1, 0, 0}, {0, 1, 0}, {0, 0, 1}}},
		{"e*", [][]int{{0, 0, 0}}, [][]int{{1, 0, 0}}},
		{"aa.aaa..+*", [][]int{{0, 0, 0}, {2, 0, 0}, {3, 0, 0}, {7, 0, 0}}, [][]int{{1, 0, 0}}},
		{"a*a*.a*.a*.a*.", [][]int{{8, 0, 0}, {0, 0, 0}}, [][]int{{0, 1, 0}, {8, 0, 1}}},
		{"ab.c.*", [][]int{{8, 8, 8}}, [][]int{{8, 8, 7}, {7, 8, 8}}},
		{strings.Repeat("a", 8) + strings.Repeat(".", 7), [][]int{{8, 0, 0}}, [][]int{{7, 0, 0}}},
		{strings.Repeat("a", 9) + strings.Repeat(".", 8), nil, [][]int{{8, 0, 0}, {0, 0, 0}}},
		{"abc++" + strings.Repeat("*", 25), [][]int{{8, 8, 8}, {0, 3, 1}}, nil},
	}
	for _, c := range cases {
		for _, v := range c.yes {
			if !accepts(t, c.code, v) {
				t.Errorf("Accepts(%q, %v) = false", c.code, v)
			}
		}
		for _, v := range c.no {
			if accepts(t, c.code, v) {
				t.Errorf("Accepts(%q, %v) = true", c.code, v)
			}
		}
	}
	want := []api.Linear{lin([]int{0, 0, 0}), lin([]int{1, 1, 0}, []int{1, 1, 0})}
	if got, e := count.Image("ab.*"); !sameSets(got, want) || e != api.OK {
		t.Errorf("Image = %v, %d", got, e)
	}
}

// An image is as large as it may be, and then larger by one: in linear sets, in
// periods, and in the numbers of a base. What comes later makes nothing valid.
func TestImagesAtTheLimits(t *testing.T) {
	cases := []struct {
		code string
		ok   bool
	}{
		{"abcabcab" + strings.Repeat("+", 7), true},
		{"abcabcabc" + strings.Repeat("+", 8), false},
		{"a*b*.c*.", true},
		{"a*b*.c*.a*.", false},
		{"abc++*", true},
		{"abce+++*", false},
		{"aab..aab..+*", true},
		{"abc++*a.", true},
		{"abc++*ab+.", false},
		{"abc++*a+", false},
		{"a**", true},
		{"a***", false},
		{"a****", false},
		{"e**", true},
		{"e***", false},
		{"aa.aa..aa.aa...", true},
		{"a*a*.a*.a*.e.e+", false},
	}
	for _, c := range cases {
		if _, e := count.Image(c.code); (e == api.OK) != c.ok || !c.ok && e != api.ErrFull {
			t.Errorf("Image(%q): %d", c.code, e)
		}
		checkImage(t, c.code, [][]int{{0, 0, 0}, {1, 1, 1}, {2, 1, 0}, {8, 8, 8}, {8, 0, 0}, {7, 1, 0}})
	}
}
