package tests

import (
	"fmt"
	"slices"
	"testing"

	"loop.example/flexlayout/impl"
)

// areaOf returns how many points rectangles have together.
func areaOf(list []impl.Rect) int {
	points := map[[2]int]bool{}
	for _, r := range list {
		for x := range r.W {
			for y := range r.H {
				points[[2]int{r.X + x, r.Y + y}] = true
			}
		}
	}
	return len(points)
}

// overlap reports whether two rectangles have a common point.
func overlap(a impl.Rect, b impl.Rect) bool {
	return max(a.X, b.X) < min(a.X+a.W, b.X+b.W) && max(a.Y, b.Y) < min(a.Y+a.H, b.Y+b.H)
}

// joinedOf returns rectangles that are joined, by the words of the specification, whether they are valid or not.
func joinedOf(list []impl.Rect) []impl.Rect {
	var kept []impl.Rect
	for _, r := range list {
		at := 0
		for at < len(kept) && !overlap(kept[at], r) {
			at++
		}
		if at == len(kept) {
			kept = append(kept, r)
		} else {
			kept[at] = hullAll([]impl.Rect{kept[at], r})
		}
	}
	return kept
}

// mustJoin returns the joined rectangles, and ends the test if there are none.
func mustJoin(t *testing.T, list []impl.Rect) []impl.Rect {
	t.Helper()
	out, ok := impl.JoinPaint(list)
	if !ok {
		t.Fatalf("JoinPaint(%v) fails", list)
	}
	return out
}

// mustCount returns the number of points, and ends the test if they are not counted.
func mustCount(t *testing.T, list []impl.Rect) int {
	t.Helper()
	area := impl.PaintArea(list)
	if area < 0 {
		t.Fatalf("PaintArea(%v) = %d", list, area)
	}
	return area
}

// checkNoJoin reports an error unless rectangles cannot be joined.
func checkNoJoin(t *testing.T, list []impl.Rect) {
	t.Helper()
	if out, ok := impl.JoinPaint(list); ok || out != nil {
		t.Errorf("JoinPaint(%v) = %v, %v, want nil, false", list, out, ok)
	}
}

func TestPaintOfAllLists(t *testing.T) {
	for _, list := range paintLists() {
		if area, want := impl.PaintArea(list), areaOf(list); area != want {
			t.Errorf("PaintArea(%v) = %d, want %d", list, area, want)
		}
		checkRects(t, fmt.Sprintf("JoinPaint(%v)", list), mustJoin(t, list), joinedOf(list)...)
	}
}

func TestPaintAreaExamples(t *testing.T) {
	side, place := impl.MaxPaintSide, impl.MaxPlace
	for _, c := range []struct {
		list []impl.Rect
		want int
	}{
		{nil, 0},
		{[]impl.Rect{}, 0},
		{[]impl.Rect{{}}, 0},
		{[]impl.Rect{rect(0, 0, 4, 4), rect(2, 2, 4, 4), rect(20, 0, 1, 1)}, 29},
		{[]impl.Rect{rect(0, 0, 6, 2), rect(0, 0, 2, 6), rect(4, 0, 2, 6), rect(0, 4, 6, 2)}, 32},
		{[]impl.Rect{rect(0, 0, 4, 4), rect(1, 1, 2, 2), rect(0, 0, 4, 4)}, 16},
		{[]impl.Rect{rect(1, 1, 2, 2), rect(0, 0, 4, 4)}, 16},
		{[]impl.Rect{rect(0, 0, 3, 3), rect(3, 0, 3, 3), rect(0, 3, 3, 3)}, 27},
		{[]impl.Rect{rect(0, 0, 5, 0), rect(0, 0, 0, 5), rect(2, 2, 1, 1)}, 1},
		{[]impl.Rect{rect(0, 0, side, side)}, side * side},
		{[]impl.Rect{rect(0, 0, side, 0)}, 0},
		{[]impl.Rect{rect(place, place, side, side), rect(-place, -place, side, side)}, 2 * side * side},
		{slices.Repeat([]impl.Rect{rect(-5, -7, side, side)}, impl.MaxPaint), side * side},
		{[]impl.Rect{rect(0, 0, 40, 40), rect(40, 0, 40, 40), rect(80, 0, 40, 40), rect(0, 40, 40, 40), rect(40, 40, 40, 40), rect(80, 40, 40, 40)}, 9600},
		{[]impl.Rect{rect(0, 0, side+1, 1)}, -1},
		{[]impl.Rect{rect(0, 0, 1, side+1)}, -1},
		{[]impl.Rect{rect(0, 0, side+1, 0)}, -1},
		{[]impl.Rect{rect(0, 0, 0, side+1)}, -1},
		{[]impl.Rect{rect(0, 0, 1, 1), rect(0, 0, impl.MaxSize, impl.MaxSize)}, -1},
		{[]impl.Rect{rect(0, 0, 1, 1), rect(0, 0, 1, side+1), rect(0, 0, 1, 1)}, -1},
		{[]impl.Rect{rect(0, 0, 40, 40)}, 1600},
		{[]impl.Rect{rect(0, 0, 41, 1)}, -1},
		{make([]impl.Rect, 6), 0},
		{make([]impl.Rect, 7), -1},
	} {
		if area := impl.PaintArea(c.list); area != c.want {
			t.Errorf("PaintArea(%v) = %d, want %d", c.list, area, c.want)
		}
	}
}

func TestJoinPaintExamples(t *testing.T) {
	far := rect(90, 90, 5, 5)
	for _, c := range []struct {
		what string
		list []impl.Rect
		want []impl.Rect
	}{
		{"nothing", nil, nil},
		{"one", []impl.Rect{far}, []impl.Rect{far}},
		{"two that overlap, and one apart", []impl.Rect{rect(0, 0, 4, 4), rect(2, 2, 4, 4), far}, []impl.Rect{rect(0, 0, 6, 6), far}},
		{"one apart between two that overlap", []impl.Rect{rect(0, 0, 4, 4), far, rect(2, 2, 4, 4)}, []impl.Rect{rect(0, 0, 6, 6), far}},
		{"two that overlap behind one apart", []impl.Rect{far, rect(0, 0, 4, 4), rect(2, 2, 4, 4)}, []impl.Rect{far, rect(0, 0, 6, 6)}},
		{"two that touch at a side", []impl.Rect{rect(0, 0, 4, 4), rect(4, 0, 4, 4)}, []impl.Rect{rect(0, 0, 4, 4), rect(4, 0, 4, 4)}},
		{"two that touch at a corner", []impl.Rect{rect(0, 0, 4, 4), rect(4, 4, 4, 4)}, []impl.Rect{rect(0, 0, 4, 4), rect(4, 4, 4, 4)}},
		{"two with one common point", []impl.Rect{rect(0, 0, 4, 4), rect(3, 3, 4, 4)}, []impl.Rect{rect(0, 0, 7, 7)}},
		{"a third one that overlaps two: only the first one takes it", []impl.Rect{rect(0, 0, 4, 4), rect(6, 0, 4, 4), rect(3, 0, 4, 4)}, []impl.Rect{rect(0, 0, 7, 4), rect(6, 0, 4, 4)}},
		{"a fourth one that overlaps both then", []impl.Rect{rect(0, 0, 4, 4), rect(6, 0, 4, 4), rect(3, 0, 4, 4), rect(6, 1, 1, 1)}, []impl.Rect{rect(0, 0, 7, 4), rect(6, 0, 4, 4)}},
		{"the other one first", []impl.Rect{rect(6, 0, 4, 4), rect(0, 0, 4, 4), rect(3, 0, 4, 4)}, []impl.Rect{rect(3, 0, 7, 4), rect(0, 0, 4, 4)}},
		{"one that only the joined one meets", []impl.Rect{rect(0, 0, 2, 2), rect(1, 1, 5, 5), rect(5, 0, 1, 1)}, []impl.Rect{rect(0, 0, 6, 6)}},
		{"one that only the joined one would have met", []impl.Rect{rect(0, 0, 2, 2), rect(5, 0, 1, 1), rect(1, 1, 5, 5)}, []impl.Rect{rect(0, 0, 6, 6), rect(5, 0, 1, 1)}},
		{"one inside another", []impl.Rect{rect(0, 0, 9, 9), rect(3, 3, 1, 1)}, []impl.Rect{rect(0, 0, 9, 9)}},
		{"one around another", []impl.Rect{rect(3, 3, 1, 1), rect(0, 0, 9, 9)}, []impl.Rect{rect(0, 0, 9, 9)}},
		{"rectangles without points inside another", []impl.Rect{rect(0, 0, 9, 9), rect(3, 3, 0, 2), rect(3, 3, 2, 0)}, []impl.Rect{rect(0, 0, 9, 9), rect(3, 3, 0, 2), rect(3, 3, 2, 0)}},
		{"one without points twice", []impl.Rect{rect(1, 1, 0, 5), rect(1, 1, 0, 5)}, []impl.Rect{rect(1, 1, 0, 5), rect(1, 1, 0, 5)}},
		{"the same one six times", slices.Repeat([]impl.Rect{far}, impl.MaxPaint), []impl.Rect{far}},
		{"as many as possible without points", make([]impl.Rect, impl.MaxPaint), make([]impl.Rect, impl.MaxPaint)},
		{"large ones", []impl.Rect{rect(0, 0, 5000, 41), rect(4999, 40, 5000, 41)}, []impl.Rect{rect(0, 0, 9999, 81)}},
	} {
		out, ok := impl.JoinPaint(c.list)
		if !ok || !slices.Equal(out, c.want) {
			t.Errorf("JoinPaint of %s: (%v) = %v, %v, want %v, true", c.what, c.list, out, ok, c.want)
		}
	}
}

func TestJoinPaintAtTheLimits(t *testing.T) {
	place, size := impl.MaxPlace, impl.MaxSize
	whole := rect(-place, -place, size, size)
	checkRects(t, "JoinPaint to the largest one", mustJoin(t, []impl.Rect{whole, rect(place-1, 0, 1, 1), rect(-place, -place, 1, 1)}), whole)
	checkRects(t, "JoinPaint beside the largest one", mustJoin(t, []impl.Rect{whole, rect(place, 0, 5, 5)}), whole, rect(place, 0, 5, 5))
	checkRects(t, "JoinPaint to the greatest width", mustJoin(t, []impl.Rect{rect(0, 0, size-1, 1), rect(1, 0, size-1, 1)}), rect(0, 0, size, 1))
	checkNoJoin(t, []impl.Rect{whole, rect(place-1, 0, 2, 1)})
	checkNoJoin(t, []impl.Rect{whole, rect(0, place-1, 1, 2)})
	checkNoJoin(t, []impl.Rect{rect(0, 0, size, 1), rect(1, 0, size, 1)})
	checkNoJoin(t, []impl.Rect{rect(0, 0, 1, size), rect(0, -1, 1, size)})
	// What is not valid in between is not valid in the end either, whatever comes before and behind it.
	checkNoJoin(t, []impl.Rect{rect(-50, 0, 1, 1), whole, rect(place-1, 0, 2, 1), rect(0, 0, 1, 1), rect(place, 0, 1, 1), rect(-50, 0, 1, 1)})
}

func TestPaintOfWrongArguments(t *testing.T) {
	for _, wrong := range wrongRectLists(impl.MaxPaint) {
		if area := impl.PaintArea(wrong); area != -1 {
			t.Errorf("PaintArea(%v) = %d", wrong, area)
		}
		checkNoJoin(t, wrong)
	}
}

func TestJoinPaintOfLargeRects(t *testing.T) {
	joined, tooLarge := 0, 0
	for _, list := range rectLists(append(edgeRects(), paintRects()...), impl.MaxPaint) {
		want := joinedOf(list)
		if slices.ContainsFunc(want, func(r impl.Rect) bool { return !impl.ValidRect(r) }) {
			checkNoJoin(t, list)
			tooLarge++
		} else {
			checkRects(t, fmt.Sprintf("JoinPaint(%v)", list), mustJoin(t, list), want...)
			joined++
		}
	}
	if joined < 500 || tooLarge < 200 {
		t.Errorf("%d lists can be joined, and %d become too large", joined, tooLarge)
	}
}

// P120
func TestPointsAreCountedOnce(t *testing.T) {
	for _, list := range paintLists() {
		area, sum := mustCount(t, list), 0
		for _, r := range list {
			sum += r.W * r.H
			if area < r.W*r.H {
				t.Errorf("PaintArea(%v) = %d, less than %v has", list, area, r)
			}
			if len(list) == impl.MaxPaint {
				continue
			}
			for at := range len(list) + 1 {
				if twice := slices.Insert(slices.Clone(list), at, r); impl.PaintArea(twice) != area {
					t.Errorf("PaintArea(%v) = %d, but with %v twice it is %d", list, area, r, impl.PaintArea(twice))
				}
			}
		}
		if area > sum {
			t.Errorf("PaintArea(%v) = %d, more than all have", list, area)
		}
	}
}

// P121
func TestTwoRectsShareTheirCommonPart(t *testing.T) {
	for _, a := range paintRects() {
		for _, b := range paintRects() {
			// The zero value of two rectangles without common points has no points either.
			common, _ := impl.MeetRects(a, b)
			if area, want := impl.PaintArea([]impl.Rect{a, b}), a.W*a.H+b.W*b.H-common.W*common.H; area != want {
				t.Errorf("PaintArea of %v and %v = %d, want %d", a, b, area, want)
			}
		}
	}
}

// P122
func TestJoinedRectsHaveAllPoints(t *testing.T) {
	for _, list := range paintLists() {
		out := mustJoin(t, list)
		if len(out) > len(list) {
			t.Errorf("JoinPaint(%v) = %v, which are more", list, out)
		}
		for _, r := range list {
			if !slices.ContainsFunc(out, func(o impl.Rect) bool { return isInside(r, o) }) {
				t.Errorf("JoinPaint(%v) = %v, without %v", list, out, r)
			}
		}
	}
}

// P123
func TestRectsThatAreApartStay(t *testing.T) {
	all := append(paintRects(), edgeRects()...)
	for _, a := range all {
		for _, b := range all {
			if !overlap(a, b) {
				checkRects(t, fmt.Sprintf("JoinPaint of %v and %v", a, b), mustJoin(t, []impl.Rect{a, b}), a, b)
			}
		}
		if hasPoints(a) {
			checkRects(t, fmt.Sprintf("JoinPaint of %v twice", a), mustJoin(t, []impl.Rect{a, a}), a)
		}
	}
}

// P178
func TestJoinedRectsHaveAtLeastAsManyPoints(t *testing.T) {
	for _, list := range paintLists() {
		out := mustJoin(t, list)
		large := slices.ContainsFunc(out, func(r impl.Rect) bool { return max(r.W, r.H) > impl.MaxPaintSide })
		if large {
			continue
		}
		if before, behind := mustCount(t, list), mustCount(t, out); behind < before {
			t.Errorf("JoinPaint(%v) = %v, with %d points, before %d", list, out, behind, before)
		}
	}
}
