// Package bellpull_test checks what the document says of all layers together.
package bellpull_test

import (
	"go/parser"
	"go/token"
	"path/filepath"
	"slices"
	"strconv"
	"strings"
	"testing"

	"bellpull/api"
	"bellpull/count"
	"bellpull/echo"
	"bellpull/hanger"
	"bellpull/norm"
	"bellpull/paint"
	"bellpull/patch"
	"bellpull/peal"
	"bellpull/rope"
	"bellpull/route"
	"bellpull/shift"
	"bellpull/weigh"
)

// Every layer declares the calls of its chapter with their exact signatures,
// whether it is built yet or not: if one does not, this file does not compile.

// Layers 1 to 4.
var (
	_ func(n int, colors []int, color, k int) ([]int, api.Errno) = paint.Clique
	_ func(n, k, l int) ([]int, api.Errno)                       = paint.Avoid
	_ func(colors []int) ([]int, api.Errno)                      = paint.Sum
	_ func(n, r int) ([]int, api.Errno)                          = paint.Sumless
	_ func(colors []int, k int) ([]int, api.Errno)               = paint.Progression
	_ func(n, r, k int) ([]int, api.Errno)                       = paint.Stepless
	_ func(n, k, l int) (int, api.Errno)                         = paint.Count

	_ func(word []int) ([]int, api.Errno)  = echo.Runs
	_ func(a, b, n int) ([]int, api.Errno) = echo.Kolakoski
	_ func(n int) ([]int, api.Errno)       = echo.Golomb
	_ func(n int) (int, api.Errno)         = echo.Ones
	_ func(word []int) ([]int, api.Errno)  = echo.Derivative
	_ func(word []int) (bool, api.Errno)   = echo.Smooth
	_ func(word []int) (int, api.Errno)    = echo.Height
	_ func(n int) (int, api.Errno)         = echo.Count
	_ func(n int) ([][]int, api.Errno)     = echo.Words
	_ func(word []int) ([]int, api.Errno)  = echo.Extend

	_ func(spans []api.Span) (int, api.Errno)                = shift.Depth
	_ func(spans []api.Span, colors []int) (bool, api.Errno) = shift.Proper
	_ func(spans []api.Span) ([]int, api.Errno)              = shift.Fit
	_ func(spans []api.Span) ([]int, api.Errno)              = shift.Levels
	_ func(spans []api.Span) ([]int, api.Errno)              = shift.Trotter
	_ func(spans []api.Span) ([]int, api.Errno)              = shift.Best
	_ func(spans []api.Span) (int, []int, api.Errno)         = shift.Deepest

	_ func(x, y api.Quat) (api.Quat, api.Errno)           = norm.Mul
	_ func(x api.Quat) (api.Quat, api.Errno)              = norm.Conj
	_ func(x api.Quat) (int, api.Errno)                   = norm.Norm
	_ func() []api.Quat                                   = norm.Units
	_ func(x, y api.Quat) (api.Quat, api.Quat, api.Errno) = norm.Divide
	_ func(x, y api.Quat) (api.Quat, api.Errno)           = norm.Gcd
	_ func(x api.Quat) (bool, api.Errno)                  = norm.Prime
	_ func(p int) (api.Quat, api.Errno)                   = norm.Split
	_ func(n int) ([]int, api.Errno)                      = norm.Four
	_ func(n int) ([]int, api.Errno)                      = norm.Three
	_ func(n int) (int, api.Errno)                        = norm.Count
	_ func(n int) (int, api.Errno)                        = norm.Hurwitz
)

// Layers 5 to 8.
var (
	_ func(d int, set []api.Linear, v []int) (bool, api.Errno)      = count.Has
	_ func(d int, set []api.Linear, n int) (int, api.Errno)         = count.Count
	_ func(d int, x, y []api.Linear, n int) ([]int, api.Errno)      = count.Differ
	_ func(d int, x, y []api.Linear) ([]api.Linear, api.Errno)      = count.Sum
	_ func(d int, x []api.Linear) ([]api.Linear, api.Errno)         = count.Star
	_ func(code string, v []int) (bool, api.Errno)                  = count.Accepts
	_ func(code string) ([]api.Linear, api.Errno)                   = count.Image
	_ func(d int, set []api.Linear) ([]int, api.Errno)              = count.Least
	_ func(n, r, m int, perm, routing []int) (bool, api.Errno)      = patch.Valid
	_ func(n, r, m int, perm []int) ([]int, api.Errno)              = patch.Route
	_ func(n, r, m int, requests []api.Pair) ([]int, api.Errno)     = patch.Serve
	_ func(n, r, m int) (bool, api.Errno)                           = patch.Strict
	_ func(k int, settings string) ([]int, api.Errno)               = patch.Apply
	_ func(k int, perm []int) (string, api.Errno)                   = patch.Set
	_ func(k int, perm []int) (int, api.Errno)                      = patch.Ways
	_ func(k int) (int, api.Errno)                                  = patch.Waksman
	_ func(k int, perm []int) (bool, api.Errno)                     = patch.Omega
	_ func(a, b int, edges []api.Pair) ([]int, api.Errno)           = patch.Colors
	_ func(int, []api.Pair, []int) (int, int, int, api.Errno)       = route.Measure
	_ func(n int, edges []api.Pair, order []int) ([]int, api.Errno) = route.Cuts
	_ func(n int, edges []api.Pair) (int, []int, api.Errno)         = route.Band
	_ func(n int, edges []api.Pair) (int, []int, api.Errno)         = route.Cut
	_ func(n int, edges []api.Pair) (int, []int, api.Errno)         = route.Arrange
	_ func(n int, edges []api.Pair) (int, api.Errno)                = route.Bound
	_ func(order []int) ([]int, api.Errno)                          = route.Reverse
	_ func(weights []int) (bool, api.Errno)                         = weigh.Distinct
	_ func(weights []int) ([]int, []int, api.Errno)                 = weigh.Clash
	_ func(weights []int, total int) ([]int, api.Errno)             = weigh.Subset
	_ func(weights []int, total int) (int, api.Errno)               = weigh.Ways
	_ func(weights []int, total int) ([]int, api.Errno)             = weigh.Pans
	_ func(n int) (int, api.Errno)                                  = weigh.Guy
	_ func(n int) ([]int, api.Errno)                                = weigh.Set
	_ func(n int) ([]int, api.Errno)                                = weigh.Best
	_ func(weights []int) (api.Num, api.Errno)                      = weigh.Reciprocals
)

// Layers 9 to 11.
var (
	_ func(n, holder int) (*rope.Tower, api.Errno) = rope.New
	_ interface {
		Want(ringer int) api.Errno
		Leave(ringer int) api.Errno
		Deliver(from, to int) api.Errno
		Inside() int
		Holder() int
		Waiting() []int
		Queue() []int
		Known(ringer int) []int
		Served() []int
		Flight() []api.Call
		Sent() int
		Clone() *rope.Tower
	} = (*rope.Tower)(nil)

	_ func() *peal.Disk = peal.NewDisk
	_ interface {
		Write(block int, b []byte) api.Errno
		Sync() api.Errno
		Read(block int) []byte
		Arm(n int)
		Restart(keep int)
		Down() bool
		Clone() *peal.Disk
	} = (*peal.Disk)(nil)

	_ func(d *peal.Disk) (*peal.List, api.Errno) = peal.Open
	_ interface {
		Add(text string) (int, api.Errno)
		Mark(no int) api.Errno
		Sync() api.Errno
		Kept() ([]api.Entry, api.Errno)
		Last() int
		Marked() int
		Broken() bool
		Disk() *peal.Disk
		Clone() *peal.List
	} = (*peal.List)(nil)

	_ func() *hanger.Hanger              = hanger.New
	_ func(s string) (string, api.Errno) = hanger.Run
	_ interface {
		Line(line string) string
		Clone() *hanger.Hanger
	} = (*hanger.Hanger)(nil)
)

// The layers below the hanger call nothing but api, and all of them import only
// what the language of the program has of the standard library.
func TestImports(t *testing.T) {
	library := strings.Fields("bytes cmp container/heap errors iter maps math math/bits slices sort strconv strings sync sync/atomic unicode unicode/utf8")
	layers := strings.Fields("paint echo shift norm count patch route weigh rope peal")
	for _, layer := range append(slices.Clone(layers), "hanger") {
		allowed := append(slices.Clone(library), "bellpull/api")
		if layer == "hanger" {
			for _, lower := range layers {
				allowed = append(allowed, "bellpull/"+lower)
			}
		}
		for _, path := range importsOf(t, layer) {
			if !slices.Contains(allowed, path) {
				t.Errorf("package %s imports %s", layer, path)
			}
		}
	}
	for _, path := range importsOf(t, "probe") {
		if !slices.Contains(library, path) {
			t.Errorf("package probe imports %s", path)
		}
	}
}

func importsOf(t *testing.T, folder string) []string {
	files, err := filepath.Glob(filepath.Join(folder, "*.go"))
	if err != nil || len(files) == 0 {
		t.Fatalf("package %s has no files: %v", folder, err)
	}
	var paths []string
	for _, name := range files {
		if strings.HasSuffix(name, "_test.go") {
			continue
		}
		file, err := parser.ParseFile(token.NewFileSet(), name, nil, parser.ImportsOnly)
		if err != nil {
			t.Fatal(err)
		}
		for _, spec := range file.Imports {
			path, err := strconv.Unquote(spec.Path.Value)
			if err != nil {
				t.Fatal(err)
			}
			paths = append(paths, path)
		}
	}
	return paths
}
