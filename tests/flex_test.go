package tests

import (
	"fmt"
	"slices"
	"testing"

	"loop.example/flexlayout/impl"
)

// flex returns a flexible size.
func flex(base int, low int, high int, grow int, shrink int) impl.Flex {
	return impl.Flex{Base: base, Min: low, Max: high, Grow: grow, Shrink: shrink}
}

// flexKinds returns flexible sizes that differ in what bounds them.
func flexKinds() []impl.Flex {
	return []impl.Flex{
		flex(0, 0, 0, 1, 1), flex(5, 5, 5, 3, 2), flex(10, 0, 100, 0, 0), flex(10, 4, 13, 1, 1),
		flex(20, 0, 20, 2, 3), flex(7, 7, 40, 3, 7), flex(30, 11, impl.MaxBox, 1, 2),
		flex(9, 0, 50, impl.MaxWeight, 0), flex(9, 0, 50, 0, impl.MaxWeight),
	}
}

// flexLists returns all lists of 1 to 3 flexKinds, and some longer ones.
func flexLists() [][]impl.Flex {
	kinds := flexKinds()
	numbers := make([]int, len(kinds))
	for i := range numbers {
		numbers[i] = i
	}
	var out [][]impl.Flex
	rows(numbers, 3, func(row []int) {
		list := make([]impl.Flex, len(row))
		for i, at := range row {
			list[i] = kinds[at]
		}
		out = append(out, list)
	})
	return append(out, kinds[:impl.MaxKids], kinds[1:], slices.Repeat(kinds[6:7], impl.MaxKids))
}

// flexSpaces are the spaces for which lists are tried.
var flexSpaces = []int{0, 1, 7, 13, 26, 30, 41, 60, 77, 100, 150, 333, impl.MaxBox, impl.MaxSize - 1, impl.MaxSize}

// baseSum returns the sum of all Base.
func baseSum(list []impl.Flex) int {
	sum := 0
	for _, f := range list {
		sum += f.Base
	}
	return sum
}

// wrongFlexes returns lists that are not valid.
func wrongFlexes() [][]impl.Flex {
	good := flex(10, 5, 20, 1, 1)
	out := [][]impl.Flex{nil, {}, slices.Repeat([]impl.Flex{good}, impl.MaxKids+1)}
	bad := []impl.Flex{
		flex(0, -1, 20, 1, 1), flex(impl.MaxBox, 5, impl.MaxBox+1, 1, 1), flex(10, 5, 4, 1, 1), flex(5, 5, 4, 1, 1), flex(4, 5, 4, 1, 1),
		flex(4, 5, 20, 1, 1), flex(21, 5, 20, 1, 1), flex(impl.MaxBox+1, impl.MaxBox+1, impl.MaxBox+1, 1, 1), flex(-1, 0, 20, 1, 1),
		flex(10, 5, 20, -1, 1), flex(10, 5, 20, impl.MaxWeight+1, 1),
		flex(10, 5, 20, 1, -1), flex(10, 5, 20, 1, impl.MaxWeight+1), flex(5, 0, 0, 0, 0), flex(-5, -5, -5, 0, 0),
	}
	for _, n := range farNumbers {
		bad = append(bad, flex(n, 5, 20, 1, 1), flex(10, n, 20, 1, 1), flex(10, 5, n, 1, 1), flex(10, 5, 20, n, 1), flex(10, 5, 20, 1, n), flex(n, n, n, 1, 1))
	}
	for _, f := range bad {
		out = append(out, []impl.Flex{f}, []impl.Flex{good, f}, []impl.Flex{f, good, good})
	}
	return out
}

func TestValidFlexesLimits(t *testing.T) {
	good := flexLists()
	good = append(good, []impl.Flex{flex(0, 0, 0, 0, 0)}, []impl.Flex{flex(impl.MaxBox, impl.MaxBox, impl.MaxBox, impl.MaxWeight, impl.MaxWeight)},
		[]impl.Flex{flex(0, 0, impl.MaxBox, 0, 0), flex(impl.MaxBox, 0, impl.MaxBox, 0, 0)})
	for _, list := range good {
		if !impl.ValidFlexes(list) {
			t.Errorf("ValidFlexes(%v) = false", list)
		}
	}
	for _, list := range wrongFlexes() {
		if impl.ValidFlexes(list) {
			t.Errorf("ValidFlexes(%v) = true", list)
		}
	}
}

func TestFlexSizesOfWrongArguments(t *testing.T) {
	for _, list := range wrongFlexes() {
		for _, space := range []int{0, 30, impl.MaxSize} {
			checkNil(t, fmt.Sprintf("FlexSizes(%v, %d)", list, space), impl.FlexSizes(list, space))
			if n := impl.LeftOver(list, space); n != 0 {
				t.Errorf("LeftOver(%v, %d) = %d", list, space, n)
			}
		}
	}
	list := []impl.Flex{flex(10, 5, 20, 1, 1)}
	for _, space := range append([]int{-1, impl.MaxSize + 1, -impl.MaxSize}, farNumbers...) {
		checkNil(t, fmt.Sprintf("FlexSizes for %d", space), impl.FlexSizes(list, space))
		if n := impl.LeftOver(list, space); n != 0 {
			t.Errorf("LeftOver for %d = %d", space, n)
		}
	}
}

func TestFlexSizesExamples(t *testing.T) {
	grow := []impl.Flex{flex(10, 0, 100, 1, 0), flex(30, 0, 40, 1, 0)}
	checkRow(t, "growing up to Max", impl.FlexSizes(grow, 100), 60, 40)
	checkRow(t, "growing beyond all Max", impl.FlexSizes(grow, 200), 100, 40)
	checkRow(t, "the greater rest first", impl.FlexSizes(grow, 43), 12, 31)
	shrink := []impl.Flex{flex(50, 0, 50, 0, 1), flex(50, 40, 50, 0, 1)}
	checkRow(t, "shrinking down to Min", impl.FlexSizes(shrink, 60), 20, 40)
	checkRow(t, "shrinking below all Min", impl.FlexSizes(shrink, 10), 0, 40)
	checkRow(t, "shrinking by an odd number", impl.FlexSizes(shrink, 97), 48, 49)
	rounds := []impl.Flex{flex(0, 0, 10, 1, 0), flex(0, 0, 100, 1, 0), flex(0, 0, 30, 2, 0)}
	checkRow(t, "growing in two rounds", impl.FlexSizes(rounds, 140), 10, 100, 30)
	checkRow(t, "growing in three rounds", impl.FlexSizes([]impl.Flex{flex(0, 0, 10, 2, 0), flex(0, 0, 45, 2, 0), flex(0, 0, 200, 1, 0)}, 100), 10, 45, 45)
	later := []impl.Flex{flex(0, 0, 1, 1, 0), flex(0, 0, 100, 1, 0), flex(0, 0, 100, 1, 0)}
	checkRow(t, "growing on from the shares of the first round", impl.FlexSizes(later, 5), 1, 3, 1)
	back := []impl.Flex{flex(1, 0, 1, 0, 1), flex(100, 0, 100, 0, 1), flex(100, 0, 100, 0, 1)}
	checkRow(t, "shrinking on from the shares of the first round", impl.FlexSizes(back, 196), 0, 97, 99)
	full := []impl.Flex{flex(10, 0, 10, 5, 0), flex(10, 0, 100, 1, 0), flex(10, 0, 100, 1, 0)}
	checkRow(t, "growing beside one that begins at Max", impl.FlexSizes(full, 37), 10, 14, 13)
	empty := []impl.Flex{flex(10, 10, 10, 0, 5), flex(10, 0, 10, 0, 1), flex(10, 0, 10, 0, 1)}
	checkRow(t, "shrinking beside one that begins at Min", impl.FlexSizes(empty, 23), 10, 6, 7)
	most := slices.Repeat([]impl.Flex{flex(impl.MaxBox, 0, impl.MaxBox, 0, 1)}, impl.MaxKids)
	checkRow(t, "shrinking from the greatest sizes to 0", impl.FlexSizes(most, 0), times(0, impl.MaxKids)...)
	least := slices.Repeat([]impl.Flex{flex(0, 0, impl.MaxBox, 1, 0)}, impl.MaxKids)
	checkRow(t, "growing from 0 to the greatest sizes", impl.FlexSizes(least, impl.MaxSize), times(impl.MaxBox, impl.MaxKids)...)
	checkRow(t, "growing from a sum that fits by 1", impl.FlexSizes(least, 1), 1, 0, 0, 0, 0, 0, 0, 0)
}

// P12
func TestFlexesCanBeLeftOut(t *testing.T) {
	for _, list := range flexLists() {
		for n := len(list); n > 0; n-- {
			if !impl.ValidFlexes(list[:n]) {
				t.Fatalf("ValidFlexes(%v) = false", list[:n])
			}
		}
	}
	if impl.ValidFlexes(flexKinds()[:0]) || impl.ValidFlexes(flexKinds()) {
		t.Error("the number of flexible sizes is not limited")
	}
}

// P13
func TestFlexSizesKeepTheirBounds(t *testing.T) {
	for _, list := range flexLists() {
		for _, space := range flexSpaces {
			got := impl.FlexSizes(list, space)
			if len(got) != len(list) {
				t.Fatalf("FlexSizes(%v, %d) = %v", list, space, got)
			}
			grown, shrunk := false, false
			for i, f := range list {
				grown = grown || got[i] > f.Base
				shrunk = shrunk || got[i] < f.Base
				if got[i] < f.Min || got[i] > f.Max {
					t.Fatalf("FlexSizes(%v, %d) = %v is beyond a bound", list, space, got)
				}
			}
			if grown && shrunk || grown && space < baseSum(list) || shrunk && space > baseSum(list) {
				t.Fatalf("FlexSizes(%v, %d) = %v goes the wrong way", list, space, got)
			}
		}
	}
}

// P14
func TestFlexSizesFillTheSpace(t *testing.T) {
	for _, list := range flexLists() {
		for _, space := range flexSpaces {
			got := impl.FlexSizes(list, space)
			for i, f := range list {
				if total(got) < space && f.Grow > 0 && got[i] < f.Max {
					t.Fatalf("FlexSizes(%v, %d) = %v could grow", list, space, got)
				}
				if total(got) > space && f.Shrink > 0 && got[i] > f.Min {
					t.Fatalf("FlexSizes(%v, %d) = %v could shrink", list, space, got)
				}
			}
			if total(got) > max(space, baseSum(list)) || total(got) < min(space, baseSum(list)) {
				t.Fatalf("FlexSizes(%v, %d) = %v goes too far", list, space, got)
			}
		}
	}
}

// P15
func TestEnoughIsEnough(t *testing.T) {
	for _, list := range flexLists() {
		base := make([]int, len(list))
		for i, f := range list {
			base[i] = f.Base
		}
		checkRow(t, fmt.Sprintf("FlexSizes(%v) for all Base", list), impl.FlexSizes(list, baseSum(list)), base...)
		for _, space := range flexSpaces {
			got := impl.FlexSizes(list, space)
			for i, f := range list {
				if f.Grow == 0 && got[i] > f.Base || f.Shrink == 0 && got[i] < f.Base {
					t.Fatalf("FlexSizes(%v, %d) = %v moves a stiff size", list, space, got)
				}
			}
		}
	}
}

// P16
func TestLeftOverIsNotUsed(t *testing.T) {
	for _, list := range flexLists() {
		for _, space := range flexSpaces {
			if n := impl.LeftOver(list, space); n+total(impl.FlexSizes(list, space)) != space {
				t.Fatalf("LeftOver(%v, %d) = %d", list, space, n)
			}
		}
	}
	grow := []impl.Flex{flex(10, 0, 100, 1, 0), flex(30, 0, 40, 1, 0)}
	shrink := []impl.Flex{flex(50, 0, 50, 0, 1), flex(50, 40, 50, 0, 1)}
	for _, c := range []struct {
		list  []impl.Flex
		space int
		want  int
	}{
		{grow, 200, 60}, {grow, 140, 0}, {grow, 40, 0}, {grow, 39, -1}, {shrink, 10, -30}, {shrink, 40, 0}, {shrink, 101, 1}, {shrink, impl.MaxSize, 199900},
	} {
		if n := impl.LeftOver(c.list, c.space); n != c.want {
			t.Errorf("LeftOver(%v, %d) = %d, want %d", c.list, c.space, n, c.want)
		}
	}
}

// P17
func TestWhoGrowsWithoutABoundTakesAll(t *testing.T) {
	for _, list := range flexLists() {
		if len(list) == impl.MaxKids {
			list = list[1:]
		}
		for _, taker := range []impl.Flex{flex(0, 0, impl.MaxBox, 1, 0), flex(12, 3, impl.MaxBox, impl.MaxWeight, 5)} {
			more := append(slices.Clone(list), taker)
			for _, space := range flexSpaces {
				if n := impl.LeftOver(more, space); space <= impl.MaxBox && n > 0 {
					t.Fatalf("LeftOver(%v, %d) = %d", more, space, n)
				}
			}
		}
	}
}

// P133
func TestMoreSpaceMakesSizesNoSmaller(t *testing.T) {
	for _, list := range flexLists() {
		before := 0
		for _, space := range append([]int{0, 1, 2, 3, 4, 5, 6}, flexSpaces[2:]...) {
			sum := total(impl.FlexSizes(list, space))
			if sum < before {
				t.Fatalf("FlexSizes(%v, %d) have the sum %d, was %d", list, space, sum, before)
			}
			before = sum
		}
	}
}

// P134
func TestOneSizeTakesWhatItCan(t *testing.T) {
	for _, f := range []impl.Flex{flex(10, 0, 100, 1, 1), flex(10, 10, 10, 1, 1), flex(7, 3, 50, impl.MaxWeight, 2), flex(0, 0, impl.MaxBox, 1, 10)} {
		for _, space := range append([]int{2, 3, 4, 49, 50, 51, 9999, 10001}, flexSpaces...) {
			checkRow(t, fmt.Sprintf("FlexSizes of %v for %d", f, space), impl.FlexSizes([]impl.Flex{f}, space), min(max(space, f.Min), f.Max))
		}
	}
}

// P135
func TestStiffSizesStay(t *testing.T) {
	stiff := []impl.Flex{flex(10, 0, 100, 0, 0), flex(0, 0, 5, 0, 0), flex(77, 1, impl.MaxBox, 0, 0)}
	for _, space := range flexSpaces {
		checkRow(t, fmt.Sprintf("FlexSizes of stiff sizes for %d", space), impl.FlexSizes(stiff, space), 10, 0, 77)
	}
	mixed := []impl.Flex{flex(10, 0, 100, 0, 1), flex(20, 0, 100, 1, 0)}
	checkRow(t, "FlexSizes that grow beside a stiff one", impl.FlexSizes(mixed, 50), 10, 40)
	checkRow(t, "FlexSizes that shrink beside a stiff one", impl.FlexSizes(mixed, 25), 5, 20)
}

func TestFlexSizesKeepTheirArguments(t *testing.T) {
	for _, space := range []int{0, 40, 100} {
		list := flexKinds()[1:6]
		given := slices.Clone(list)
		got := impl.FlexSizes(given, space)
		kept := slices.Clone(got)
		impl.LeftOver(given, space)
		for i := range got[:cap(got)] {
			got[:cap(got)][i] = -77
		}
		if !slices.Equal(given, list) || !slices.Equal(impl.FlexSizes(given, space), kept) {
			t.Errorf("FlexSizes(%v, %d) changes with its results", list, space)
		}
	}
}
