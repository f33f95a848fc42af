package tests

import (
	"fmt"
	"slices"
	"testing"

	"loop.example/flexlayout/impl"
)

// someSizes returns sizes of parts: none, all small ones, empty ones among them, and as many as possible.
func someSizes() [][]int {
	most := impl.MaxKids
	out := [][]int{
		nil, slices.Repeat([]int{impl.MaxBox}, most), make([]int, most), {1, 0, 2, 0, 0, 3, 1, 0}, {impl.MaxBox, 0, impl.MaxBox}, {impl.MaxBox - 1, 1},
	}
	rows([]int{0, 1, 3}, 4, func(row []int) { out = append(out, row) })
	return out
}

// eachPartView calls a function with sizes of parts, and with views at many places.
func eachPartView(call func(sizes []int, view int, at int)) {
	for _, sizes := range someSizes() {
		end := total(sizes)
		views := []int{0, 1, 2, 5, end, end + 1, impl.MaxSize}
		places := []int{-impl.MaxSize, -impl.MaxBox, impl.MaxBox - 1, impl.MaxBox, end - 1, end, end + 1, impl.MaxSize}
		for at := -6; at <= 13; at++ {
			places = append(places, at)
		}
		for _, view := range views {
			for _, at := range places {
				call(sizes, view, at)
			}
		}
	}
}

// isSeen reports whether one of the points from a beginning to an end, this not included, is in a view.
func isSeen(begin int, end int, view int, at int) bool {
	for point := begin; point < end; point++ {
		if at <= point && point < at+view {
			return true
		}
	}
	return false
}

// seenOf returns the parts some of whose points are in a view, by the words of the specification.
func seenOf(sizes []int, view int, at int) []int {
	var out []int
	begin := 0
	for i, size := range sizes {
		if isSeen(begin, begin+size, view, at) {
			out = append(out, i)
		}
		begin += size
	}
	return out
}

func TestSeenPartsOfAllViews(t *testing.T) {
	eachPartView(func(sizes []int, view int, at int) {
		checkRow(t, fmt.Sprintf("SeenParts(%v, %d, %d)", sizes, view, at), impl.SeenParts(sizes, view, at), seenOf(sizes, view, at)...)
	})
}

func TestSeenPartsExamples(t *testing.T) {
	sizes := []int{50, 0, 100, 20}
	for _, c := range []struct {
		view, at int
		want     []int
	}{
		{60, 40, []int{0, 2}}, {10, 40, []int{0}}, {11, 40, []int{0, 2}}, {10, 50, []int{2}}, {100, 50, []int{2}}, {101, 50, []int{2, 3}}, {101, 49, []int{0, 2}},
		{102, 49, []int{0, 2, 3}}, {1, 49, []int{0}}, {1, 50, []int{2}}, {1, 149, []int{2}}, {1, 150, []int{3}}, {1, 169, []int{3}}, {1, 170, nil}, {1, -1, nil},
		{1, 0, []int{0}}, {5, -5, nil}, {6, -5, []int{0}}, {170, 0, []int{0, 2, 3}}, {impl.MaxSize, 169, []int{3}}, {impl.MaxSize, 170, nil},
		{impl.MaxSize, -impl.MaxSize, nil}, {impl.MaxSize, 1 - impl.MaxSize, []int{0}}, {impl.MaxSize, impl.MaxSize, nil},
	} {
		checkRow(t, fmt.Sprintf("SeenParts of a view of %d at %d", c.view, c.at), impl.SeenParts(sizes, c.view, c.at), c.want...)
	}
	full := slices.Repeat([]int{impl.MaxBox}, impl.MaxKids)
	checkRow(t, "SeenParts of the last of the largest parts", impl.SeenParts(full, 1, impl.MaxKids*impl.MaxBox-1), impl.MaxKids-1)
	checkRow(t, "SeenParts behind the largest parts", impl.SeenParts(full, 1, impl.MaxKids*impl.MaxBox))
}

// A view without size has no points, so it shows no part, also in the midst of one.
func TestSeenPartsOfViewsWithoutSize(t *testing.T) {
	for _, sizes := range append(someSizes(), []int{10}, []int{2}, []int{3, 4, 5}, []int{50, 0, 100, 20}) {
		places := []int{-impl.MaxSize, impl.MaxBox - 1, impl.MaxBox, impl.MaxBox + 1, total(sizes) - 1, total(sizes), impl.MaxSize}
		for at := -2; at <= 172; at++ {
			places = append(places, at)
		}
		for _, at := range places {
			checkRow(t, fmt.Sprintf("SeenParts(%v, 0, %d)", sizes, at), impl.SeenParts(sizes, 0, at))
		}
	}
}

// A view with one point shows the part that has this point.
func TestSeenPartsOfViewsWithOnePoint(t *testing.T) {
	checkRow(t, "SeenParts of one part", impl.SeenParts([]int{10}, 1, 5), 0)
	sizes := []int{50, 0, 100, 20}
	for at, part := range map[int]int{0: 0, 49: 0, 50: 2, 149: 2, 150: 3, 169: 3} {
		checkRow(t, fmt.Sprintf("SeenParts of a view of one point at %d", at), impl.SeenParts(sizes, 1, at), part)
	}
}

func TestSeenPartsOfWrongArguments(t *testing.T) {
	for _, sizes := range wrongLists(impl.MaxKids, impl.MaxBox) {
		for _, at := range []int{0, 5, -5} {
			checkNil(t, fmt.Sprintf("SeenParts(%v, 1000, %d)", sizes, at), impl.SeenParts(sizes, 1000, at))
		}
	}
	for _, sizes := range someSizes() {
		for _, wrong := range wrongLengths {
			for _, at := range []int{0, 2, 5000, -5} {
				checkNil(t, fmt.Sprintf("SeenParts(%v, %d, %d)", sizes, wrong, at), impl.SeenParts(sizes, wrong, at))
			}
		}
		for _, wrong := range wrongPlaces {
			checkNil(t, fmt.Sprintf("SeenParts(%v, 1000, %d)", sizes, wrong), impl.SeenParts(sizes, 1000, wrong))
			checkNil(t, fmt.Sprintf("SeenParts(%v, %d, %d)", sizes, impl.MaxSize, wrong), impl.SeenParts(sizes, impl.MaxSize, wrong))
		}
	}
}

func TestSeenPartsChangeNothing(t *testing.T) {
	for _, sizes := range someSizes() {
		checkFresh(t, fmt.Sprintf("SeenParts(%v)", sizes), sizes, func(sizes []int) []int { return impl.SeenParts(sizes, impl.MaxSize, 0) })
		checkFresh(t, fmt.Sprintf("SeenParts(%v) from 1 on", sizes), sizes, func(sizes []int) []int { return impl.SeenParts(sizes, 5, 1) })
	}
}

// P84, which speaks of views that have points
func TestSeenPartsAreInTheView(t *testing.T) {
	eachPartView(func(sizes []int, view int, at int) {
		if view == 0 {
			return
		}
		var want []int
		begin := 0
		for i, size := range sizes {
			end := begin + size
			if begin < at+view && end > at && size != 0 {
				want = append(want, i)
			}
			begin = end
		}
		if seen := impl.SeenParts(sizes, view, at); !slices.Equal(seen, want) {
			t.Errorf("SeenParts(%v, %d, %d) = %v, want %v", sizes, view, at, seen, want)
		}
	})
}

// P85
func TestWideViewsSeeMore(t *testing.T) {
	eachPartView(func(sizes []int, view int, at int) {
		for _, wider := range []int{view + 1, view + 3, impl.MaxSize} {
			wide := impl.SeenParts(sizes, min(wider, impl.MaxSize), at)
			for _, part := range impl.SeenParts(sizes, view, at) {
				if !slices.Contains(wide, part) {
					t.Errorf("SeenParts(%v, %d, %d) has no %d, unlike a view of %d", sizes, wider, at, part, view)
				}
			}
		}
	})
}

// P167
func TestViewsOfEverythingSeeEverything(t *testing.T) {
	for _, sizes := range someSizes() {
		var want []int
		for i, size := range sizes {
			if size > 0 {
				want = append(want, i)
			}
		}
		checkRow(t, fmt.Sprintf("SeenParts of all of %v", sizes), impl.SeenParts(sizes, total(sizes), 0), want...)
	}
}

// viewsOf returns views of a layout: its rectangles, points at their edges and beside them, stripes between them, and views without points or far away.
func viewsOf(rects []impl.Rect) []impl.Rect {
	out := []impl.Rect{
		rect(-impl.MaxPlace, -impl.MaxPlace, impl.MaxSize, impl.MaxSize), rect(-impl.MaxPlace, -impl.MaxPlace, impl.MaxPlace, impl.MaxSize),
		rect(impl.MaxPlace, impl.MaxPlace, impl.MaxSize, impl.MaxSize), rect(0, 0, 0, impl.MaxSize), rect(0, 0, impl.MaxSize, 0), rect(0, 0, 0, 0),
	}
	for _, r := range rects {
		right, bottom := r.X+r.W, r.Y+r.H
		out = append(out, r, rect(r.X, r.Y, 1, 1), rect(right-1, bottom-1, 1, 1), rect(right, bottom-1, 1, 1), rect(right-1, bottom, 1, 1),
			rect(r.X-1, r.Y-1, 1, 1), rect(r.X-3, r.Y-1, 3, 500), rect(r.X-3, r.Y-1, 4, 500), rect(r.X, r.Y, 0, r.H), rect(right-1, 0, 2, 1))
	}
	return out
}

// seenBoxesOf returns the numbers of the rectangles that have a point in a view.
func seenBoxesOf(rects []impl.Rect, view impl.Rect) []int {
	var out []int
	for at, r := range rects {
		if max(r.X, view.X) < min(r.X+r.W, view.X+view.W) && max(r.Y, view.Y) < min(r.Y+r.H, view.Y+view.H) {
			out = append(out, at)
		}
	}
	return out
}

func TestSeenBoxesOfAllTrees(t *testing.T) {
	eachShown(t, func(tree []impl.Box, screen extent, rects []impl.Rect) {
		for _, view := range viewsOf(rects) {
			if seen := impl.SeenBoxes(tree, screen.w, screen.h, view); !slices.Equal(seen, seenBoxesOf(rects, view)) {
				t.Errorf("SeenBoxes(%v, %v, %v) = %v", tree, screen, view, seen)
			}
		}
	})
}

func TestSeenBoxesExamples(t *testing.T) {
	tree := spillingTree()
	for _, c := range []struct {
		what string
		view impl.Rect
		want []int
	}{
		{"everything", rect(-50, -50, 500, 500), []int{0, 1, 2, 3, 4, 5}},
		{"the screen", rect(0, 0, 60, 40), []int{0, 1, 2, 3, 4, 5}},
		{"a pad", rect(0, 0, 60, 5), []int{0}},
		{"a pad and 1 more", rect(0, 0, 60, 6), []int{0, 1, 2, 3, 4, 5}},
		{"a box that spills, below the box around it", rect(6, 36, 1, 1), []int{0, 2}},
		{"a box that spills, below the screen", rect(6, 43, 1, 1), []int{2}},
		{"its last row", rect(6, 44, 1, 1), []int{2}},
		{"the row below it", rect(6, 45, 1, 1), nil},
		{"a box that spills to the right", rect(60, 6, 500, 1), []int{3, 5}},
		{"a box without points", rect(25, 5, 0, 30), nil},
		{"no points at a corner", rect(5, 5, 0, 0), nil},
		{"nothing", rect(-10, 0, 10, 40), nil},
	} {
		checkRow(t, "SeenBoxes of "+c.what, impl.SeenBoxes(tree, 60, 40, c.view), c.want...)
	}
}

func TestSeenBoxesOfWrongArguments(t *testing.T) {
	everything := rect(-impl.MaxPlace, -impl.MaxPlace, impl.MaxSize, impl.MaxSize)
	for _, tree := range wrongTrees() {
		for _, screen := range screens {
			checkNil(t, fmt.Sprintf("SeenBoxes(%v, %v)", tree, screen), impl.SeenBoxes(tree, screen.w, screen.h, everything))
		}
	}
	for _, tree := range trees() {
		for _, n := range wrongSizes {
			checkNil(t, fmt.Sprintf("SeenBoxes(%v, %d, 50)", tree, n), impl.SeenBoxes(tree, n, 50, everything))
			checkNil(t, fmt.Sprintf("SeenBoxes(%v, 50, %d)", tree, n), impl.SeenBoxes(tree, 50, n, everything))
		}
		for _, wrong := range wrongRects() {
			checkNil(t, fmt.Sprintf("SeenBoxes(%v, %v)", tree, wrong), impl.SeenBoxes(tree, 100, 50, wrong))
		}
	}
}

func TestSeenBoxesChangeNothing(t *testing.T) {
	for _, tree := range trees() {
		given, copied := withSpare(tree), withSpare(tree)
		first := impl.SeenBoxes(given, 100, 50, rect(0, 0, 100, 50))
		kept := slices.Clone(first)
		spoil(first)
		checkRow(t, fmt.Sprintf("SeenBoxes(%v) again", tree), impl.SeenBoxes(given, 100, 50, rect(0, 0, 100, 50)), kept...)
		if all := len(tree) + 3; !slices.Equal(given[:all], copied[:all]) {
			t.Errorf("a tree is changed: %v, was %v", given[:all], copied[:all])
		}
	}
}

// P86
func TestSeenBoxesMeetTheView(t *testing.T) {
	eachShown(t, func(tree []impl.Box, screen extent, rects []impl.Rect) {
		for _, view := range viewsOf(rects) {
			want := boxesThat(tree, func(at int) bool { _, ok := impl.MeetRects(rects[at], view); return ok })
			if seen := impl.SeenBoxes(tree, screen.w, screen.h, view); !slices.Equal(seen, want) {
				t.Errorf("SeenBoxes(%v, %v, %v) = %v, want %v", tree, screen, view, seen, want)
			}
		}
	})
}

// P87
func TestTheWholeScreenShowsAllBoxesWithPointsInIt(t *testing.T) {
	eachShown(t, func(tree []impl.Box, screen extent, rects []impl.Rect) {
		for at, r := range rects {
			if seen := impl.SeenBoxes(tree, screen.w, screen.h, r); slices.Contains(seen, at) != hasPoints(r) {
				t.Errorf("SeenBoxes(%v, %v, %v) = %v, for box %d", tree, screen, r, seen, at)
			}
		}
		onScreen := boxesThat(tree, func(at int) bool {
			r := rects[at]
			return hasPoints(r) && r.X < screen.w && r.Y < screen.h
		})
		if seen := impl.SeenBoxes(tree, screen.w, screen.h, rects[0]); !slices.Equal(seen, onScreen) {
			t.Errorf("SeenBoxes(%v, %v) of the screen = %v, want %v", tree, screen, seen, onScreen)
		}
	})
}
