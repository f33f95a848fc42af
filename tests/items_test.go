package tests

import (
	"fmt"
	"slices"
	"testing"

	"loop.example/flexlayout/impl"
)

// eachItems calls a function with widths of items in all numbers of columns: none, all few ones, and as many as possible.
func eachItems(call func(widths []int, columns int)) {
	for columns := 1; columns <= impl.MaxKids; columns++ {
		call(nil, columns)
		var widths []int
		for width := 1; width <= columns; width++ {
			widths = append(widths, width)
			call(times(width, impl.MaxItems), columns)
			call(times(width, impl.MaxItems-1), columns)
		}
		rows(widths, 4, func(row []int) { call(row, columns) })
		rows(widths, 2, func(row []int) { call(slices.Repeat(row, impl.MaxItems/len(row)), columns) })
		call(slices.Repeat([]int{1, columns, (columns + 1) / 2, 1}, impl.MaxItems/4), columns)
	}
}

// placesOf returns the places of items: in columns that are counted on over all rows, an item that would lie in two rows begins with the second one.
func placesOf(widths []int, columns int) []int {
	var out []int
	next := 0
	for _, width := range widths {
		if last := next + width - 1; last/columns > next/columns {
			next = last / columns * columns
		}
		out = append(out, next/columns, next%columns)
		next += width
	}
	return out
}

// mustPlaces returns the places of items, and ends the test if there is not a pair for each.
func mustPlaces(t *testing.T, widths []int, columns int) [][]int {
	t.Helper()
	places := impl.AutoPlaces(widths, columns)
	if len(places) != len(widths) || slices.ContainsFunc(places, func(place []int) bool { return len(place) != 2 }) {
		t.Fatalf("AutoPlaces(%v, %d) = %v", widths, columns, places)
	}
	return places
}

// checkRows reports an error unless RowsUsed has the wanted number.
func checkRows(t *testing.T, widths []int, columns int, want int) {
	t.Helper()
	if n := impl.RowsUsed(widths, columns); n != want {
		t.Errorf("RowsUsed(%v, %d) = %d, want %d", widths, columns, n, want)
	}
}

func TestPlacesOfAllItems(t *testing.T) {
	eachItems(func(widths []int, columns int) {
		want := placesOf(widths, columns)
		if places := slices.Concat(mustPlaces(t, widths, columns)...); !slices.Equal(places, want) {
			t.Errorf("AutoPlaces(%v, %d) = %v, want %v", widths, columns, places, want)
		}
		rowsUsed := 0
		if len(want) > 0 {
			rowsUsed = want[len(want)-2] + 1
		}
		checkRows(t, widths, columns, rowsUsed)
	})
}

func TestAutoPlacesExamples(t *testing.T) {
	for _, c := range []struct {
		what    string
		widths  []int
		columns int
		want    []int
		rows    int
	}{
		{"no items", nil, 3, nil, 0},
		{"no items, which are not nil", []int{}, 1, nil, 0},
		{"items with rests of rows", []int{2, 2, 1, 3}, 3, []int{0, 0, 1, 0, 1, 2, 2, 0}, 3},
		{"a row that is full", []int{1, 2}, 3, []int{0, 0, 0, 1}, 1},
		{"a row that is full, and one item more", []int{1, 2, 1}, 3, []int{0, 0, 0, 1, 1, 0}, 2},
		{"an item that is 1 too wide", []int{2, 2}, 3, []int{0, 0, 1, 0}, 2},
		{"an item as wide as the grid", []int{3}, 3, []int{0, 0}, 1},
		{"items as wide as the grid", []int{3, 3, 3}, 3, []int{0, 0, 1, 0, 2, 0}, 3},
		{"a place in front that stays free", []int{2, 3, 1}, 3, []int{0, 0, 1, 0, 2, 0}, 3},
		{"a small item that does not go back", []int{2, 2, 1, 1}, 3, []int{0, 0, 1, 0, 1, 2, 2, 0}, 3},
		{"one column", []int{1, 1, 1}, 1, []int{0, 0, 1, 0, 2, 0}, 3},
		{"a row of the largest grid", times(1, 8), 8, []int{0, 0, 0, 1, 0, 2, 0, 3, 0, 4, 0, 5, 0, 6, 0, 7}, 1},
		{"the widest items", []int{8, 8}, 8, []int{0, 0, 1, 0}, 2},
	} {
		checkRow(t, "AutoPlaces of "+c.what, slices.Concat(mustPlaces(t, c.widths, c.columns)...), c.want...)
		checkRows(t, c.widths, c.columns, c.rows)
	}
	checkRows(t, times(1, impl.MaxItems), 1, impl.MaxItems)
}

func TestPlacesOfWrongArguments(t *testing.T) {
	check := func(widths []int, columns int) {
		t.Helper()
		if places := impl.AutoPlaces(widths, columns); places != nil {
			t.Errorf("AutoPlaces(%v, %d) = %v", widths, columns, places)
		}
		checkRows(t, widths, columns, -1)
	}
	for _, columns := range append([]int{-1, 0, impl.MaxKids + 1}, farNumbers...) {
		for _, widths := range [][]int{nil, {}, {1}, {columns}, {0}, {1, 2, 3}} {
			check(widths, columns)
		}
	}
	for columns := 1; columns <= impl.MaxKids; columns++ {
		check(times(1, impl.MaxItems+1), columns)
		check(times(columns, impl.MaxItems+1), columns)
		check(times(1, 1000), columns)
		for _, wrong := range append([]int{-1, 0, -columns, columns + 1}, farNumbers...) {
			full := times(1, impl.MaxItems)
			full[impl.MaxItems-1] = wrong
			for _, widths := range [][]int{{wrong}, {wrong, 1}, {1, wrong}, {1, wrong, 1}, {wrong, wrong}, full} {
				check(widths, columns)
			}
		}
	}
}

func TestPlacesChangeNothing(t *testing.T) {
	for _, widths := range [][]int{nil, {1}, {2, 2, 1, 3}, {1, 1, 1}, times(2, impl.MaxItems), {9}} {
		what := fmt.Sprintf("AutoPlaces(%v, 3)", widths)
		checkFresh(t, what, widths, func(widths []int) []int { return slices.Concat(impl.AutoPlaces(widths, 3)...) })
		checkFresh(t, fmt.Sprintf("RowsUsed(%v, 3)", widths), widths, func(widths []int) []int { return []int{impl.RowsUsed(widths, 3)} })
		places := impl.AutoPlaces(widths, 3)
		want := slices.Concat(places...)
		for i, place := range places {
			checkRow(t, fmt.Sprintf("place %d of %s", i, what), place, want[2*i:2*i+2]...)
			spoil(place)
		}
		checkRow(t, what+" again", slices.Concat(impl.AutoPlaces(widths, 3)...), want...)
	}
}

// P102
func TestItemsDoNotOverlap(t *testing.T) {
	eachItems(func(widths []int, columns int) {
		row, end := 0, 0
		for i, place := range mustPlaces(t, widths, columns) {
			behind := place[0] == row && place[1] == end
			below := i > 0 && place[0] == row+1 && place[1] == 0
			row, end = place[0], place[1]+widths[i]
			if !behind && !below || end > columns {
				t.Errorf("AutoPlaces(%v, %d) has item %d at %v", widths, columns, i, place)
			}
		}
	})
}

// P103
func TestRowsAreFilled(t *testing.T) {
	eachItems(func(widths []int, columns int) {
		end := 0
		for i, place := range mustPlaces(t, widths, columns) {
			if i > 0 && place[1] == 0 && end+widths[i] <= columns {
				t.Errorf("AutoPlaces(%v, %d) has item %d in the next row, behind column %d", widths, columns, i, end)
			}
			end = place[1] + widths[i]
		}
	})
}

// P104
func TestRowsAreAsManyAsNeeded(t *testing.T) {
	eachItems(func(widths []int, columns int) {
		n := impl.RowsUsed(widths, columns)
		if n < 0 || n > len(widths) || columns == 1 && n != len(widths) || n == 0 && len(widths) > 0 {
			t.Errorf("RowsUsed(%v, %d) = %d", widths, columns, n)
		}
	})
}

// P105
func TestWiderGridsHaveFewerRows(t *testing.T) {
	eachItems(func(widths []int, columns int) {
		for more := columns + 1; more <= impl.MaxKids; more++ {
			if n := impl.RowsUsed(widths, more); n < 0 || n > impl.RowsUsed(widths, more-1) {
				t.Errorf("RowsUsed(%v, %d) = %d, more than with a column less", widths, more, n)
			}
		}
	})
}

// P175
func TestItemsDoNotWaitForOthers(t *testing.T) {
	eachItems(func(widths []int, columns int) {
		all := slices.Concat(mustPlaces(t, widths, columns)...)
		for many := range len(widths) + 1 {
			first := slices.Concat(mustPlaces(t, widths[:many], columns)...)
			if !slices.Equal(first, all[:2*many]) {
				t.Errorf("AutoPlaces(%v, %d) = %v, unlike the beginning of %v", widths[:many], columns, first, all)
			}
		}
	})
}
