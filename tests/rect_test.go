package tests

import (
	"fmt"
	"testing"

	"loop.example/flexlayout/impl"
)

func TestValidRectLimits(t *testing.T) {
	for _, r := range append(edgeRects(), rect(3, -4, 5, 6), rect(-100000, 100000, 200000, 0)) {
		if !impl.ValidRect(r) {
			t.Errorf("ValidRect(%v) = false", r)
		}
	}
	for _, r := range wrongRects() {
		if impl.ValidRect(r) {
			t.Errorf("ValidRect(%v) = true", r)
		}
	}
}

func TestInRectOfWrongRects(t *testing.T) {
	for _, r := range wrongRects() {
		for _, p := range []int{r.X, r.Y, 0, 1, 4, impl.MaxPlace + 1} {
			if impl.InRect(r, p, p) || impl.InRect(r, r.X, r.Y) || impl.InRect(r, r.X+1, r.Y+1) {
				t.Errorf("a point %d is in %v", p, r)
			}
		}
	}
}

func TestInRectOfAnyPoint(t *testing.T) {
	for _, r := range append(edgeRects(), rect(-5, -5, 10, 10)) {
		for _, n := range farNumbers {
			if impl.InRect(r, n, 0) || impl.InRect(r, 0, n) || impl.InRect(r, n, n) {
				t.Errorf("a point at %d is in %v", n, r)
			}
		}
	}
	far := rect(impl.MaxPlace, -impl.MaxPlace, impl.MaxSize, impl.MaxSize)
	if !impl.InRect(far, 299999, 99999) || impl.InRect(far, 300000, 99999) || impl.InRect(far, 299999, 100000) {
		t.Errorf("the ends of %v are wrong", far)
	}
}

// P1
func TestEmptyRectsHaveNoPoints(t *testing.T) {
	for _, r := range smallRects([]int{-impl.MaxPlace, -1, 0, 2, impl.MaxPlace}, []int{0, 1, 3, impl.MaxSize}) {
		if hasPoints(r) {
			continue
		}
		if !impl.ValidRect(r) {
			t.Errorf("ValidRect(%v) = false", r)
		}
		for dx := -1; dx <= 4; dx++ {
			for dy := -1; dy <= 4; dy++ {
				if impl.InRect(r, r.X+dx, r.Y+dy) {
					t.Errorf("%d, %d is in the empty %v", r.X+dx, r.Y+dy, r)
				}
			}
		}
		got, ok := impl.MeetRects(r, r)
		checkNoRect(t, "MeetRects of an empty one and itself", got, ok)
	}
}

// P2
func TestPointsAreInRectsUpToTheirEnds(t *testing.T) {
	for _, r := range append(edgeRects(), rect(0, 0, 10, 10), rect(-7, 3, 2, 9)) {
		if !hasPoints(r) {
			continue
		}
		right, bottom := r.X+r.W, r.Y+r.H
		for _, p := range [][2]int{{r.X, r.Y}, {right - 1, r.Y}, {r.X, bottom - 1}, {right - 1, bottom - 1}} {
			if !impl.InRect(r, p[0], p[1]) {
				t.Errorf("%v is not in %v", p, r)
			}
		}
		for _, p := range [][2]int{{right, bottom}, {right, r.Y}, {r.X, bottom}, {r.X - 1, r.Y}, {r.X, r.Y - 1}} {
			if impl.InRect(r, p[0], p[1]) {
				t.Errorf("%v is in %v", p, r)
			}
		}
	}
}

// P3
func TestPointsMoveWithRects(t *testing.T) {
	moves := [][2]int{{1, 0}, {0, -1}, {5, 7}, {-13, 4}, {90000, -90000}}
	for _, r := range smallRects([]int{-3, 0, 2}, []int{0, 1, 4}) {
		for x := -5; x <= 7; x++ {
			for y := -5; y <= 7; y++ {
				for _, m := range moves {
					moved := rect(r.X+m[0], r.Y+m[1], r.W, r.H)
					if impl.InRect(r, x, y) != impl.InRect(moved, x+m[0], y+m[1]) {
						t.Fatalf("%d, %d in %v changes by moving by %v", x, y, r, m)
					}
				}
			}
		}
	}
}

// P4
func TestCommonPointsAreInBoth(t *testing.T) {
	list := smallRects([]int{-2, 0, 1}, []int{0, 1, 3, 5})
	for _, a := range list {
		for _, b := range list {
			common, ok := impl.MeetRects(a, b)
			points := 0
			for x := -3; x <= 7; x++ {
				for y := -3; y <= 7; y++ {
					both := impl.InRect(a, x, y) && impl.InRect(b, x, y)
					if both != (ok && impl.InRect(common, x, y)) {
						t.Fatalf("%d, %d: MeetRects(%v, %v) = %v, %v", x, y, a, b, common, ok)
					}
					if both {
						points++
					}
				}
			}
			if ok != (points > 0) || points != common.W*common.H {
				t.Fatalf("MeetRects(%v, %v) = %v, %v with %d points", a, b, common, ok, points)
			}
		}
	}
}

func TestMeetRectsAtTheLimits(t *testing.T) {
	far := rect(impl.MaxPlace, impl.MaxPlace, impl.MaxSize, impl.MaxSize)
	near := rect(-impl.MaxPlace, -impl.MaxPlace, impl.MaxSize, impl.MaxSize)
	got, ok := impl.MeetRects(near, far)
	checkNoRect(t, "MeetRects of rectangles that touch", got, ok)
	got, ok = impl.MeetRects(far, rect(0, 0, impl.MaxSize, impl.MaxSize))
	checkRect(t, "MeetRects", got, ok, rect(100000, 100000, 100000, 100000))
	got, ok = impl.MeetRects(rect(0, 0, 10, 10), rect(10, 0, 5, 5))
	checkNoRect(t, "MeetRects of rectangles side by side", got, ok)
	got, ok = impl.MeetRects(rect(0, 0, 10, 10), rect(0, 10, 5, 5))
	checkNoRect(t, "MeetRects of rectangles below each other", got, ok)
	got, ok = impl.MeetRects(rect(0, 0, 10, 10), rect(3, 3, 0, 5))
	checkNoRect(t, "MeetRects with an empty one inside", got, ok)
	got, ok = impl.MeetRects(rect(0, 0, 10, 10), rect(9, 9, 5, 5))
	checkRect(t, "MeetRects with one common point", got, ok, rect(9, 9, 1, 1))
}

func TestWrongRectsHaveNoMeetingAndNoHull(t *testing.T) {
	good := rect(0, 0, 10, 10)
	for _, wrong := range wrongRects() {
		for i, pair := range [][2]impl.Rect{{wrong, good}, {good, wrong}, {wrong, wrong}} {
			got, ok := impl.MeetRects(pair[0], pair[1])
			checkNoRect(t, fmt.Sprintf("MeetRects %d with %v", i, wrong), got, ok)
			got, ok = impl.HullOf(pair[0], pair[1])
			checkNoRect(t, fmt.Sprintf("HullOf %d with %v", i, wrong), got, ok)
		}
	}
}

// P5
func TestMeetRectsInBothOrders(t *testing.T) {
	list := append(smallRects([]int{-2, 0, 1}, []int{0, 1, 3}), edgeRects()...)
	for _, a := range list {
		for _, b := range list {
			one, oneOk := impl.MeetRects(a, b)
			other, otherOk := impl.MeetRects(b, a)
			if one != other || oneOk != otherOk {
				t.Fatalf("MeetRects(%v, %v) = %v, but %v in the other order", a, b, one, other)
			}
		}
		if hasPoints(a) {
			got, ok := impl.MeetRects(a, a)
			checkRect(t, "MeetRects of a rectangle and itself", got, ok, a)
		}
	}
}

// P6
func TestHullsHaveBothInside(t *testing.T) {
	list := append(smallRects([]int{-2, 0, 1}, []int{0, 1, 3}), rect(50, 60, 0, 0), rect(-40, 9, 0, 7))
	for _, a := range list {
		for _, b := range list {
			hull, ok := impl.HullOf(a, b)
			if !ok || !isInside(a, hull) || !isInside(b, hull) {
				t.Fatalf("HullOf(%v, %v) = %v, %v", a, b, hull, ok)
			}
			right, bottom := hull.X+hull.W, hull.Y+hull.H
			if hull.X != a.X && hull.X != b.X || hull.Y != a.Y && hull.Y != b.Y ||
				right != a.X+a.W && right != b.X+b.W || bottom != a.Y+a.H && bottom != b.Y+b.H {
				t.Fatalf("HullOf(%v, %v) = %v is too large", a, b, hull)
			}
		}
	}
}

func TestHullOfExamples(t *testing.T) {
	got, ok := impl.HullOf(rect(0, 0, 10, 10), rect(5, 5, 10, 10))
	checkRect(t, "HullOf", got, ok, rect(0, 0, 15, 15))
	got, ok = impl.HullOf(rect(0, 0, 2, 2), rect(10, -5, 0, 0))
	checkRect(t, "HullOf with an empty one outside", got, ok, rect(0, -5, 10, 7))
	got, ok = impl.HullOf(rect(4, 5, 0, 0), rect(1, 1, 0, 0))
	checkRect(t, "HullOf two empty ones", got, ok, rect(1, 1, 3, 4))
	got, ok = impl.HullOf(rect(4, 5, 0, 0), rect(4, 5, 0, 0))
	checkRect(t, "HullOf an empty one and itself", got, ok, rect(4, 5, 0, 0))
}

func TestHullOfAtTheLimits(t *testing.T) {
	low, high := -impl.MaxPlace, impl.MaxPlace
	got, ok := impl.HullOf(rect(low, low, 0, 0), rect(high, high, 0, 0))
	checkRect(t, "HullOf the outermost corners", got, ok, rect(low, low, impl.MaxSize, impl.MaxSize))
	got, ok = impl.HullOf(rect(low, 0, 0, 0), rect(high, 0, 1, 0))
	checkNoRect(t, "HullOf that is 1 too wide", got, ok)
	got, ok = impl.HullOf(rect(0, low, 0, 0), rect(0, high, 0, 1))
	checkNoRect(t, "HullOf that is 1 too high", got, ok)
	got, ok = impl.HullOf(rect(0, 0, impl.MaxSize, 5), rect(1, 0, impl.MaxSize, 5))
	checkNoRect(t, "HullOf two of the greatest width", got, ok)
	got, ok = impl.HullOf(rect(1, 0, impl.MaxSize-1, 5), rect(0, 0, 1, 5))
	checkRect(t, "HullOf the greatest width", got, ok, rect(0, 0, impl.MaxSize, 5))
}

// P7
func TestHullOfInBothOrders(t *testing.T) {
	list := append(smallRects([]int{-2, 0, 1}, []int{0, 1, 3}), edgeRects()...)
	for _, a := range list {
		for _, b := range list {
			one, oneOk := impl.HullOf(a, b)
			other, otherOk := impl.HullOf(b, a)
			if one != other || oneOk != otherOk {
				t.Fatalf("HullOf(%v, %v) = %v, but %v in the other order", a, b, one, other)
			}
			if oneOk {
				again, ok := impl.HullOf(a, one)
				checkRect(t, "HullOf a rectangle and its hull", again, ok, one)
			}
		}
	}
}

// P8
func TestInsetRectsAreInside(t *testing.T) {
	for _, r := range append(smallRects([]int{-2, 0, 7}, []int{0, 1, 2, 3, 4, 5, 99, 100, 101}), edgeRects()...) {
		same, ok := impl.InsetRect(r, 0)
		checkRect(t, "InsetRect by 0", same, ok, r)
		for _, edge := range []int{1, 2, 3, 25, impl.MaxEdge - 1, impl.MaxEdge} {
			inner, ok := impl.InsetRect(r, edge)
			if ok && (!isInside(inner, r) || !impl.ValidRect(inner)) {
				t.Errorf("InsetRect(%v, %d) = %v", r, edge, inner)
			}
			if !ok && r.X+min(edge, r.W/2) <= impl.MaxPlace && r.Y+min(edge, r.H/2) <= impl.MaxPlace {
				t.Errorf("InsetRect(%v, %d) fails", r, edge)
			}
		}
	}
}

func TestInsetRectExamples(t *testing.T) {
	for _, c := range []struct {
		from impl.Rect
		edge int
		want impl.Rect
	}{
		{rect(0, 0, 10, 20), 3, rect(3, 3, 4, 14)},
		{rect(-9, 4, 6, 7), 3, rect(-6, 7, 0, 1)},
		{rect(0, 0, 10, 4), 3, rect(3, 2, 4, 0)},
		{rect(0, 0, 5, 20), 3, rect(2, 3, 0, 14)},
		{rect(-10, -20, 5, 7), 4, rect(-8, -17, 0, 0)},
		{rect(2, 2, 0, 1), 1, rect(2, 2, 0, 0)},
		{rect(0, 0, 99, 101), 50, rect(49, 50, 0, 1)},
		{rect(99999, -100000, 2, 2), 1, rect(100000, -99999, 0, 0)},
		{rect(100000, 100000, 1, 0), 50, rect(100000, 100000, 0, 0)},
	} {
		got, ok := impl.InsetRect(c.from, c.edge)
		checkRect(t, fmt.Sprintf("InsetRect(%v, %d)", c.from, c.edge), got, ok, c.want)
	}
}

func TestInsetRectOfWrongArguments(t *testing.T) {
	for _, edge := range append([]int{-1, impl.MaxEdge + 1, -impl.MaxEdge}, farNumbers...) {
		got, ok := impl.InsetRect(rect(0, 0, 500, 500), edge)
		checkNoRect(t, fmt.Sprintf("InsetRect by %d", edge), got, ok)
	}
	for _, wrong := range wrongRects() {
		for _, edge := range []int{0, 2} {
			got, ok := impl.InsetRect(wrong, edge)
			checkNoRect(t, fmt.Sprintf("InsetRect(%v, %d)", wrong, edge), got, ok)
		}
	}
	got, ok := impl.InsetRect(rect(impl.MaxPlace, 0, 2, 2), 1)
	checkNoRect(t, "InsetRect with a corner too far to the right", got, ok)
	got, ok = impl.InsetRect(rect(0, impl.MaxPlace-49, 500, 500), 50)
	checkNoRect(t, "InsetRect with a corner too far down", got, ok)
}

// P9
func TestEdgesAddUp(t *testing.T) {
	for _, r := range smallRects([]int{-3, 0, 7}, []int{0, 1, 2, 3, 4, 5, 11, 12, 98, 99, 100, 150}) {
		for edge := 0; edge < impl.MaxEdge; edge++ {
			first, ok := impl.InsetRect(r, edge)
			if !ok {
				t.Fatalf("InsetRect(%v, %d) fails", r, edge)
			}
			second, secondOk := impl.InsetRect(first, 1)
			once, onceOk := impl.InsetRect(r, edge+1)
			if second != once || !secondOk || !onceOk {
				t.Fatalf("InsetRect(%v) by %d and 1 = %v, at once %v", r, edge, second, once)
			}
		}
	}
}

// P128
func TestInsetRectsAreCommonWithTheirRects(t *testing.T) {
	met := 0
	for _, r := range smallRects([]int{-3, 0, 7}, []int{0, 1, 2, 3, 10, 101}) {
		for _, edge := range []int{0, 1, 2, 4, 50} {
			inner, ok := impl.InsetRect(r, edge)
			if !ok || !hasPoints(inner) {
				continue
			}
			got, ok := impl.MeetRects(r, inner)
			checkRect(t, fmt.Sprintf("MeetRects of %v and InsetRect by %d", r, edge), got, ok, inner)
			met++
		}
	}
	if met == 0 {
		t.Error("no inner rectangle has points")
	}
}

// P129
func TestCommonPartsAreInHulls(t *testing.T) {
	list := smallRects([]int{-2, 0, 1}, []int{1, 3, 5})
	for _, a := range list {
		for _, b := range list {
			common, ok := impl.MeetRects(a, b)
			if !ok {
				continue
			}
			if !isInside(common, a) || !isInside(common, b) {
				t.Fatalf("MeetRects(%v, %v) = %v is not inside", a, b, common)
			}
			for _, r := range []impl.Rect{a, b} {
				hull, ok := impl.HullOf(common, r)
				checkRect(t, "HullOf the common part and one of both", hull, ok, r)
			}
		}
	}
}

// P130
func TestHullsCanBeRegrouped(t *testing.T) {
	list := smallRects([]int{-4, 0, 3}, []int{0, 2, 6})
	for _, a := range list {
		for _, b := range list {
			left, leftOk := impl.HullOf(a, b)
			for _, c := range list {
				right, rightOk := impl.HullOf(b, c)
				one, oneOk := impl.HullOf(left, c)
				other, otherOk := impl.HullOf(a, right)
				if one != other || !leftOk || !rightOk || !oneOk || !otherOk {
					t.Fatalf("HullOf %v, %v, %v = %v from the left, %v from the right", a, b, c, one, other)
				}
			}
		}
	}
}
