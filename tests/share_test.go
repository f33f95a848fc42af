package tests

import (
	"fmt"
	"slices"
	"testing"

	"loop.example/flexlayout/impl"
)

// times returns a list in which a number is repeated.
func times(n int, count int) []int {
	return slices.Repeat([]int{n}, count)
}

// scaled returns the numbers, each multiplied.
func scaled(list []int, factor int) []int {
	out := make([]int, len(list))
	for i, n := range list {
		out[i] = n * factor
	}
	return out
}

func TestShareSpaceExamples(t *testing.T) {
	for _, c := range []struct {
		space   int
		weights []int
		want    []int
	}{
		{100, []int{1, 1, 1}, []int{34, 33, 33}},
		{101, []int{1, 1, 1}, []int{34, 34, 33}},
		{2, []int{1, 2, 1}, []int{1, 1, 0}},
		{2, []int{1, 1, 2}, []int{1, 0, 1}},
		{5, []int{3, 3, 1}, []int{2, 2, 1}},
		{5, []int{1, 3, 3}, []int{1, 2, 2}},
		{10, []int{1, 2, 4}, []int{1, 3, 6}},
		{1, []int{0, 2, 0, 2}, []int{0, 1, 0, 0}},
		{7, []int{2, 0, 5}, []int{2, 0, 5}},
		{0, []int{1, 2, 3}, []int{0, 0, 0}},
		{9, []int{4}, []int{9}},
		{9, []int{0}, []int{0}},
		{100, []int{0, 0}, []int{0, 0}},
		{impl.MaxSize, []int{0, 0, 0}, []int{0, 0, 0}},
		{impl.MaxSize, times(impl.MaxSize, 8), times(25000, 8)},
		{impl.MaxSize, []int{impl.MaxSize, 1}, []int{199999, 1}},
		{3, times(1, 8), []int{1, 1, 1, 0, 0, 0, 0, 0}},
		{7, times(impl.MaxSize, 8), []int{1, 1, 1, 1, 1, 1, 1, 0}},
		{199999, []int{1, 1}, []int{100000, 99999}},
	} {
		checkRow(t, fmt.Sprintf("ShareSpace(%d, %v)", c.space, c.weights), impl.ShareSpace(c.space, c.weights), c.want...)
	}
}

func TestShareSpaceOfWrongArguments(t *testing.T) {
	for _, space := range append([]int{-1, impl.MaxSize + 1, -impl.MaxSize}, farNumbers...) {
		for _, weights := range [][]int{{1, 2}, {0}, {0, 0, 0}} {
			checkNil(t, fmt.Sprintf("ShareSpace(%d, %v)", space, weights), impl.ShareSpace(space, weights))
		}
	}
	wrong := [][]int{nil, {}, times(1, impl.MaxKids+1), times(0, impl.MaxKids+1), {-1}, {0, -1}, {5, -1, 5}, {1, 1, impl.MaxSize + 1}, {impl.MaxSize + 1}}
	for _, n := range farNumbers {
		wrong = append(wrong, []int{n}, []int{1, n}, []int{n, n})
	}
	for _, weights := range wrong {
		for _, space := range []int{0, 10, impl.MaxSize} {
			checkNil(t, fmt.Sprintf("ShareSpace(%d, %v)", space, weights), impl.ShareSpace(space, weights))
		}
	}
}

// P10
func TestSharesAddUp(t *testing.T) {
	check := func(space int, weights []int) {
		got := impl.ShareSpace(space, weights)
		sum := total(weights)
		want := space
		if sum == 0 {
			want = 0
		}
		if len(got) != len(weights) || total(got) != want {
			t.Fatalf("ShareSpace(%d, %v) = %v does not add up to %d", space, weights, got, want)
		}
		for i, n := range got {
			// n differs from the exact share space*weights[i]/sum by less than 1.
			if off := n*sum - space*weights[i]; sum > 0 && (off <= -sum || off >= sum) || sum == 0 && n != 0 {
				t.Fatalf("ShareSpace(%d, %v) = %v is not near the exact shares", space, weights, got)
			}
		}
	}
	rows([]int{0, 1, 2, 5, 7}, 4, func(weights []int) {
		for space := range 20 {
			check(space, weights)
		}
		check(impl.MaxSize, weights)
	})
	check(impl.MaxSize, []int{impl.MaxSize, 199999, 1, 0, 3, impl.MaxSize, 77, 100001})
	check(199999, times(impl.MaxSize, impl.MaxKids))
}

// P11
func TestWhoHasNoWeightGetsNothing(t *testing.T) {
	rows([]int{0, 1, 2, 5, 7}, 4, func(weights []int) {
		for space := range 20 {
			got := impl.ShareSpace(space, weights)
			for i, w := range weights {
				if w == 0 && got[i] != 0 {
					t.Fatalf("ShareSpace(%d, %v) = %v gives to a weight of 0", space, weights, got)
				}
				for j := range weights {
					if w > weights[j] && got[i] < got[j] {
						t.Fatalf("ShareSpace(%d, %v) = %v gives less to more weight", space, weights, got)
					}
				}
			}
		}
	})
}

// P131
func TestOnlyTheRelationOfWeightsMatters(t *testing.T) {
	rows([]int{0, 1, 2, 5, 7}, 4, func(weights []int) {
		for _, space := range []int{0, 1, 2, 3, 10, 11, 100, 199999, impl.MaxSize} {
			checkRow(t, fmt.Sprintf("ShareSpace(%d, three times %v)", space, weights), impl.ShareSpace(space, scaled(weights, 3)), impl.ShareSpace(space, weights)...)
		}
	})
	weights := []int{66666, 1, 40000}
	checkRow(t, "ShareSpace of large weights", impl.ShareSpace(199999, scaled(weights, 3)), impl.ShareSpace(199999, weights)...)
}

// P132
func TestEqualWeightsShareEvenly(t *testing.T) {
	for count := 1; count <= impl.MaxKids; count++ {
		for _, weight := range []int{1, 3, impl.MaxSize} {
			for _, space := range []int{0, 1, 5, 7, 8, 9, 15, 16, 17, 100, 199999, impl.MaxSize} {
				got := impl.ShareSpace(space, times(weight, count))
				want := times(space/count, count)
				for i := range space % count {
					want[i]++
				}
				checkRow(t, fmt.Sprintf("ShareSpace(%d, %d times %d)", space, count, weight), got, want...)
			}
		}
	}
}

func TestShareSpaceReturnsNewMemory(t *testing.T) {
	for _, weights := range [][]int{{1, 2, 4}, {0, 0}, {5}} {
		checkFresh(t, "ShareSpace", weights, func(argument []int) []int { return impl.ShareSpace(100, argument) })
	}
}

// P18
func TestSizesDoNotOverlap(t *testing.T) {
	eachOffsets(func(sizes []int, space int, gap int, justify int) {
		got := impl.OffsetsOf(sizes, space, gap, justify)
		if len(got) != len(sizes) || got[0] < 0 {
			t.Fatalf("OffsetsOf(%v, %d, %d, %d) = %v", sizes, space, gap, justify, got)
		}
		for i := 1; i < len(got); i++ {
			if got[i] < got[i-1]+sizes[i-1]+gap {
				t.Fatalf("OffsetsOf(%v, %d, %d, %d) = %v overlap", sizes, space, gap, justify, got)
			}
		}
	})
}

// eachOffsets calls a function with many valid arguments of OffsetsOf.
func eachOffsets(call func(sizes []int, space int, gap int, justify int)) {
	for justify := impl.JustifyStart; justify <= impl.JustifyBetween; justify++ {
		for _, space := range []int{0, 1, 5, 10, 13, 30, 101, impl.MaxSize} {
			for _, gap := range []int{0, 1, 3, impl.MaxEdge} {
				rows([]int{0, 1, 5, impl.MaxBox}, 4, func(sizes []int) { call(sizes, space, gap, justify) })
				call(times(3, impl.MaxKids), space, gap, justify)
				call(times(impl.MaxBox, impl.MaxKids), space, gap, justify)
			}
		}
	}
}

// needed returns the room that sizes and the gaps between them need.
func needed(sizes []int, gap int) int {
	return total(sizes) + gap*(len(sizes)-1)
}

// P19
func TestSpacesHaveEnds(t *testing.T) {
	eachOffsets(func(sizes []int, space int, gap int, justify int) {
		got := impl.OffsetsOf(sizes, space, gap, justify)
		last := len(got) - 1
		end := got[last] + sizes[last]
		room := needed(sizes, gap) <= space
		front := (space - needed(sizes, gap)) / 2
		what := fmt.Sprintf("OffsetsOf(%v, %d, %d, %d) = %v", sizes, space, gap, justify, got)
		switch {
		case justify == impl.JustifyStart && got[0] != 0:
			t.Fatalf("%s does not begin at 0", what)
		case justify == impl.JustifyEnd && room && end != space:
			t.Fatalf("%s does not end with the space", what)
		case justify == impl.JustifyMiddle && room && got[0] != front:
			t.Fatalf("%s does not begin at %d", what, front)
		case justify == impl.JustifyBetween && got[0] != 0:
			t.Fatalf("%s does not begin at 0", what)
		case justify == impl.JustifyBetween && room && len(sizes) > 1 && end != space:
			t.Fatalf("%s does not end with the space", what)
		}
	})
}

// P20
func TestFullSpacesHaveOneOrder(t *testing.T) {
	rows([]int{0, 1, 5, impl.MaxBox}, 4, func(sizes []int) {
		for _, gap := range []int{0, 1, impl.MaxEdge} {
			room := needed(sizes, gap)
			for _, space := range []int{room, max(0, room-1), room / 2, 0} {
				start := impl.OffsetsOf(sizes, space, gap, impl.JustifyStart)
				for justify := impl.JustifyEnd; justify <= impl.JustifyBetween; justify++ {
					checkRow(t, fmt.Sprintf("OffsetsOf(%v, %d, %d, %d)", sizes, space, gap, justify), impl.OffsetsOf(sizes, space, gap, justify), start...)
				}
			}
		}
	})
}

// P136
func TestGapsLieBetween(t *testing.T) {
	rows([]int{0, 1, 5, impl.MaxBox}, 4, func(sizes []int) {
		for _, space := range []int{0, 7, 100, impl.MaxSize} {
			for _, gap := range []int{0, 1, 20, impl.MaxEdge - 1} {
				got := impl.OffsetsOf(sizes, space, gap, impl.JustifyStart)
				wider := impl.OffsetsOf(sizes, space, gap+1, impl.JustifyStart)
				for i := range got {
					got[i] += i
				}
				checkRow(t, fmt.Sprintf("OffsetsOf(%v, %d, %d)", sizes, space, gap+1), wider, got...)
			}
		}
	})
}

func TestOffsetsOfExamples(t *testing.T) {
	for _, c := range []struct {
		sizes   []int
		space   int
		gap     int
		justify int
		want    []int
	}{
		{[]int{10, 20}, 50, 5, impl.JustifyStart, []int{0, 15}},
		{[]int{10, 20}, 50, 5, impl.JustifyEnd, []int{15, 30}},
		{[]int{10, 20}, 50, 5, impl.JustifyMiddle, []int{7, 22}},
		{[]int{10, 20}, 50, 5, impl.JustifyBetween, []int{0, 30}},
		{[]int{1, 2, 3}, 13, 1, impl.JustifyBetween, []int{0, 5, 10}},
		{[]int{1, 2, 3, 4}, 20, 1, impl.JustifyBetween, []int{0, 5, 10, 16}},
		{[]int{10}, 50, 5, impl.JustifyStart, []int{0}},
		{[]int{10}, 50, 5, impl.JustifyEnd, []int{40}},
		{[]int{10}, 51, 5, impl.JustifyMiddle, []int{20}},
		{[]int{10}, 50, 5, impl.JustifyBetween, []int{0}},
		{[]int{0, 0}, 1, 0, impl.JustifyMiddle, []int{0, 0}},
		{[]int{0, 0}, 1, 0, impl.JustifyBetween, []int{0, 1}},
		{[]int{10, 20}, 34, 5, impl.JustifyEnd, []int{0, 15}},
		{[]int{10, 20}, 35, 5, impl.JustifyEnd, []int{0, 15}},
		{[]int{10, 20}, 36, 5, impl.JustifyEnd, []int{1, 16}},
		{[]int{impl.MaxBox, impl.MaxBox}, impl.MaxSize, impl.MaxEdge, impl.JustifyEnd, []int{179950, 190000}},
	} {
		what := fmt.Sprintf("OffsetsOf(%v, %d, %d, %d)", c.sizes, c.space, c.gap, c.justify)
		checkRow(t, what, impl.OffsetsOf(c.sizes, c.space, c.gap, c.justify), c.want...)
	}
}

func TestOffsetsOfWrongArguments(t *testing.T) {
	check := func(sizes []int, space int, gap int, justify int) {
		t.Helper()
		checkNil(t, fmt.Sprintf("OffsetsOf(%v, %d, %d, %d)", sizes, space, gap, justify), impl.OffsetsOf(sizes, space, gap, justify))
	}
	for justify := impl.JustifyStart; justify <= impl.JustifyBetween; justify++ {
		for _, sizes := range [][]int{nil, {}, times(1, impl.MaxKids+1), {-1}, {1, -1, 1}, {1, impl.MaxBox + 1}} {
			check(sizes, 50, 5, justify)
		}
		for _, n := range append([]int{-1}, farNumbers...) {
			check([]int{10, n}, 50, 5, justify)
			check([]int{10, 20}, n, 5, justify)
			check([]int{10, 20}, 50, n, justify)
		}
		check([]int{10, 20}, impl.MaxSize+1, 5, justify)
		check([]int{10, 20}, 50, impl.MaxEdge+1, justify)
		check([]int{10}, 50, impl.MaxEdge+1, justify)
	}
	for _, justify := range append([]int{impl.JustifyStart - 1, impl.JustifyBetween + 1}, farNumbers...) {
		check([]int{10, 20}, 50, 5, justify)
		check([]int{10}, 10, 0, justify)
	}
}

func TestOffsetsOfReturnsNewMemory(t *testing.T) {
	for justify := impl.JustifyStart; justify <= impl.JustifyBetween; justify++ {
		for _, sizes := range [][]int{{1, 2, 4}, {0, 0}, {5}} {
			checkFresh(t, "OffsetsOf", sizes, func(argument []int) []int { return impl.OffsetsOf(argument, 100, 3, justify) })
		}
	}
}
