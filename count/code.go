package count

import (
	"slices"

	"bellpull/api"
)

// wellFormed reports whether an expression leaves one value on its stack, and
// takes none that is not there.
func wellFormed(code string) bool {
	height := 0
	for _, letter := range []byte(code) {
		taken, ok := operands(letter)
		if !ok || taken > height {
			return false
		}
		height += 1 - taken
	}
	return height == 1
}

// operands returns how many values a letter takes from the stack, before it
// puts one there, and whether it is a letter of expressions.
func operands(letter byte) (int, bool) {
	switch letter {
	case 'a', 'b', 'c', 'e':
		return 0, true
	case '*':
		return 1, true
	case '.', '+':
		return 2, true
	}
	return 0, false
}

// reading says what the letters of an expression do with values of some type:
// a word of at most one letter is given as its image.
type reading[T any] struct {
	word   func(image vector) T
	concat func(x, y T) T
	union  func(x, y T) T
	repeat func(x T) T
}

// of returns the value of a well-formed expression.
func (r reading[T]) of(code string) T {
	var stack []T
	for _, letter := range []byte(code) {
		taken, _ := operands(letter)
		rest := len(stack) - taken
		value := r.apply(letter, stack[rest:])
		stack = append(stack[:rest], value)
	}
	return stack[0]
}

func (r reading[T]) apply(letter byte, values []T) T {
	switch letter {
	case '.':
		return r.concat(values[0], values[1])
	case '+':
		return r.union(values[0], values[1])
	case '*':
		return r.repeat(values[0])
	case 'e':
		return r.word(vector{})
	}
	var image vector
	image[letter-'a'] = 1
	return r.word(image)
}

// imagesTo returns the images of the words of an expression that have of no
// letter more than a vector says.
func imagesTo(limit vector, code string) found {
	inside := func(v vector) bool { return v.upTo(limit) }
	images := reading[found]{
		word: func(image vector) found {
			all := foundOf(image)
			all.trim(inside)
			return all
		},
		concat: func(x, y found) found { return x.plus(y, inside) },
		union: func(x, y found) found {
			x.add(y)
			return x
		},
		repeat: func(x found) found { return x.star(inside) },
	}
	return images.of(code)
}

// semilinear returns the image of an expression. The first result that is not
// valid is an error; nothing that follows takes it back.
func semilinear(code string) ([]api.Linear, api.Errno) {
	wrong := api.OK
	noted := func(set []api.Linear, e api.Errno) []api.Linear {
		if e != api.OK {
			wrong = e
		}
		return set
	}
	const d = api.MaxDims
	sets := reading[[]api.Linear]{
		word:   func(image vector) []api.Linear { return setOf(d, []linear{{base: image}}) },
		concat: func(x, y []api.Linear) []api.Linear { return noted(Sum(d, x, y)) },
		union:  func(x, y []api.Linear) []api.Linear { return noted(valid(d, slices.Concat(x, y))) },
		repeat: func(x []api.Linear) []api.Linear { return noted(Star(d, x)) },
	}
	set := sets.of(code)
	if wrong != api.OK {
		return nil, wrong
	}
	return set, api.OK
}
