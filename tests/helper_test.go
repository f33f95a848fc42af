package tests

import (
	"math"
	"slices"
	"testing"

	"loop.example/flexlayout/impl"
)

// farNumbers are far outside all limits: sums of them overflow.
var farNumbers = []int{math.MinInt, math.MinInt + 1, math.MaxInt - 1, math.MaxInt}

// rect returns a rectangle.
func rect(x int, y int, w int, h int) impl.Rect {
	return impl.Rect{X: x, Y: y, W: w, H: h}
}

// hasPoints reports whether a rectangle is not empty.
func hasPoints(r impl.Rect) bool {
	return r.W > 0 && r.H > 0
}

// isInside reports whether all sides of a rectangle are within those of another one.
func isInside(inner impl.Rect, outer impl.Rect) bool {
	return inner.X >= outer.X && inner.Y >= outer.Y &&
		inner.X+inner.W <= outer.X+outer.W && inner.Y+inner.H <= outer.Y+outer.H
}

// smallRects returns all rectangles with corners and sizes of a few small numbers, empty ones too.
func smallRects(places []int, sizes []int) []impl.Rect {
	var out []impl.Rect
	for _, x := range places {
		for _, y := range places {
			for _, w := range sizes {
				for _, h := range sizes {
					out = append(out, rect(x, y, w, h))
				}
			}
		}
	}
	return out
}

// edgeRects returns valid rectangles at their limits.
func edgeRects() []impl.Rect {
	return smallRects([]int{-impl.MaxPlace, 0, impl.MaxPlace}, []int{0, 1, impl.MaxSize})
}

// wrongRects returns rectangles of which one number is beyond its limit.
func wrongRects() []impl.Rect {
	out := []impl.Rect{
		rect(impl.MaxPlace+1, 0, 5, 5), rect(-impl.MaxPlace-1, 0, 5, 5),
		rect(0, impl.MaxPlace+1, 5, 5), rect(0, -impl.MaxPlace-1, 5, 5),
		rect(0, 0, impl.MaxSize+1, 5), rect(0, 0, -1, 5),
		rect(0, 0, 5, impl.MaxSize+1), rect(0, 0, 5, -1),
	}
	for _, n := range farNumbers {
		out = append(out, rect(n, 0, 5, 5), rect(0, n, 5, 5), rect(0, 0, n, 5), rect(0, 0, 5, n))
	}
	return out
}

// rows calls a function with all rows of 1 to a greatest number of the given numbers.
func rows(numbers []int, greatest int, call func(row []int)) {
	var grow func(row []int)
	grow = func(row []int) {
		if len(row) > 0 {
			call(row)
		}
		if len(row) == greatest {
			return
		}
		for _, n := range numbers {
			grow(append(slices.Clone(row), n))
		}
	}
	grow(nil)
}

// total returns the sum of numbers.
func total(list []int) int {
	sum := 0
	for _, n := range list {
		sum += n
	}
	return sum
}

// checkRow reports an error unless a list has exactly the wanted numbers.
func checkRow(t *testing.T, what string, got []int, want ...int) {
	t.Helper()
	if !slices.Equal(got, want) {
		t.Errorf("%s = %v, want %v", what, got, want)
	}
}

// checkNil reports an error unless a list is nil.
func checkNil(t *testing.T, what string, got []int) {
	t.Helper()
	if got != nil {
		t.Errorf("%s = %v, want nil", what, got)
	}
}

// checkRect reports an error unless a result is the wanted rectangle and true.
func checkRect(t *testing.T, what string, got impl.Rect, ok bool, want impl.Rect) {
	t.Helper()
	if !ok || got != want {
		t.Errorf("%s = %v, %v, want %v, true", what, got, ok, want)
	}
}

// checkNoRect reports an error unless a result is the zero value and false.
func checkNoRect(t *testing.T, what string, got impl.Rect, ok bool) {
	t.Helper()
	if ok || got != (impl.Rect{}) {
		t.Errorf("%s = %v, %v, want the zero value, false", what, got, ok)
	}
}

// checkFresh reports an error if a call changes its argument, shares memory with it, or remembers its result.
func checkFresh(t *testing.T, what string, argument []int, call func(argument []int) []int) {
	t.Helper()
	checkFreshList(t, what, argument, 7, -77, call)
}

// checkFreshList does what checkFresh does, with a value for the spare capacity of the argument and one that is written into the result.
func checkFreshList[T comparable](t *testing.T, what string, argument []T, spare T, written T, call func(argument []T) []T) {
	t.Helper()
	all := len(argument) + 3
	given := append(slices.Clone(argument), spare, spare, spare)[:len(argument)]
	copied := slices.Clone(given[:all])
	first := call(given)
	kept := slices.Clone(first)
	if !slices.Equal(given[:all], copied) {
		t.Errorf("%s changes its argument: %v, was %v", what, given[:all], copied)
	}
	for i := range first[:cap(first)] {
		first[:cap(first)][i] = written
	}
	if !slices.Equal(given[:all], copied) {
		t.Errorf("%s shares memory with its argument", what)
	}
	if second := call(given); !slices.Equal(second, kept) {
		t.Errorf("%s = %v the second time, was %v", what, second, kept)
	}
}
