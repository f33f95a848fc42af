package tests

import (
	"fmt"
	"slices"
	"testing"

	"loop.example/flexlayout/impl"
)

func TestLayoutTreeOfAllTrees(t *testing.T) {
	eachLayout(t, func(tree []impl.Box, screen extent, rects []impl.Rect) {
		want := make([]impl.Rect, len(tree))
		want[0] = rect(0, 0, screen.w, screen.h)
		placeIn(t, tree, 0, want)
		checkRects(t, fmt.Sprintf("LayoutTree(%v, %v)", tree, screen), rects, want...)
	})
}

// firstBox returns the first box of a tree.
func firstBox(kind int, pad int, gap int, justify int) impl.Box {
	return impl.Box{Parent: -1, Kind: kind, Pad: pad, Gap: gap, Justify: justify}
}

// flexLeaf returns a leaf in the first box.
func flexLeaf(w int, h int, grow int, shrink int) impl.Box {
	return impl.Box{W: w, H: h, Grow: grow, Shrink: shrink}
}

func TestLayoutTreeExamples(t *testing.T) {
	stiff := []impl.Box{leaf(0, 10, 4), leaf(0, 20, 5), leaf(0, 30, 6)}
	with := func(b impl.Box, inner ...impl.Box) []impl.Box { return append([]impl.Box{b}, inner...) }
	for _, c := range []struct {
		what   string
		tree   []impl.Box
		screen extent
		want   []impl.Rect
	}{
		{"a leaf", []impl.Box{{Parent: -1, W: 7, H: 8, Pad: 50}}, extent{3, 4}, nil},
		{"a row", with(firstBox(impl.BoxRow, 5, 2, impl.JustifyStart), stiff...), extent{91, 30},
			[]impl.Rect{rect(5, 5, 10, 20), rect(17, 5, 20, 20), rect(39, 5, 30, 20)}},
		{"a row from the end", with(firstBox(impl.BoxRow, 5, 2, impl.JustifyEnd), stiff...), extent{91, 30},
			[]impl.Rect{rect(22, 5, 10, 20), rect(34, 5, 20, 20), rect(56, 5, 30, 20)}},
		{"a row in the middle", with(firstBox(impl.BoxRow, 5, 2, impl.JustifyMiddle), stiff...), extent{92, 30},
			[]impl.Rect{rect(14, 5, 10, 20), rect(26, 5, 20, 20), rect(48, 5, 30, 20)}},
		{"a row from end to end", with(firstBox(impl.BoxRow, 5, 2, impl.JustifyBetween), stiff...), extent{91, 30},
			[]impl.Rect{rect(5, 5, 10, 20), rect(26, 5, 20, 20), rect(56, 5, 30, 20)}},
		{"a column in the middle", with(firstBox(impl.BoxColumn, 1, 3, impl.JustifyMiddle), stiff...), extent{12, 44},
			[]impl.Rect{rect(1, 11, 10, 4), rect(1, 18, 10, 5), rect(1, 26, 10, 6)}},
		{"a block, which has no middle", with(firstBox(impl.BoxBlock, 1, 3, impl.JustifyMiddle), stiff...), extent{12, 44},
			[]impl.Rect{rect(1, 1, 10, 4), rect(1, 8, 10, 5), rect(1, 16, 10, 6)}},
		{"a growing row", with(firstBox(impl.BoxRow, 0, 10, 0), flexLeaf(10, 1, 1, 0), flexLeaf(20, 2, 3, 0)), extent{60, 9},
			[]impl.Rect{rect(0, 0, 15, 9), rect(25, 0, 35, 9)}},
		{"a shrinking row", with(firstBox(impl.BoxRow, 0, 10, 0), flexLeaf(10, 1, 0, 1), flexLeaf(20, 2, 0, 3)), extent{30, 9},
			[]impl.Rect{rect(0, 0, 7, 9), rect(17, 0, 13, 9)}},
		{"a growing column", with(firstBox(impl.BoxColumn, 2, 1, 0), flexLeaf(10, 10, 0, 1), flexLeaf(20, 0, 1, 0)), extent{24, 40},
			[]impl.Rect{rect(2, 2, 20, 10), rect(2, 13, 20, 25)}},
		{"a block, in which nothing grows or shrinks", with(firstBox(impl.BoxBlock, 2, 1, 0), flexLeaf(10, 10, 9, 9), flexLeaf(20, 20, 9, 9)), extent{24, 9},
			[]impl.Rect{rect(2, 2, 20, 10), rect(2, 13, 20, 20)}},
		{"a growing leaf up to the whole screen", with(firstBox(impl.BoxRow, 0, 0, 0), flexLeaf(0, 0, 1, 0)), extent{impl.MaxBox, impl.MaxBox},
			[]impl.Rect{rect(0, 0, impl.MaxBox, impl.MaxBox)}},
	} {
		want := append([]impl.Rect{rect(0, 0, c.screen.w, c.screen.h)}, c.want...)
		checkRects(t, "LayoutTree of "+c.what, impl.LayoutTree(c.tree, c.screen.w, c.screen.h), want...)
	}
}

func TestLayoutTreeOfPadsThatAreLargerThanBoxes(t *testing.T) {
	for _, c := range []struct {
		kind   int
		screen extent
		inner  impl.Box
		want   impl.Rect
		spills bool
	}{
		{impl.BoxRow, extent{60, 41}, flexLeaf(10, 10, 0, 0), rect(30, 20, 10, 0), true},
		{impl.BoxRow, extent{61, 41}, flexLeaf(10, 10, 0, 1), rect(30, 20, 0, 0), false},
		{impl.BoxRow, extent{99, 101}, flexLeaf(10, 10, 5, 1), rect(49, 50, 0, 1), false},
		{impl.BoxRow, extent{100, 100}, flexLeaf(0, 10, 5, 1), rect(50, 50, 0, 0), false},
		{impl.BoxColumn, extent{60, 41}, flexLeaf(10, 10, 0, 0), rect(30, 20, 0, 10), true},
		{impl.BoxColumn, extent{101, 99}, flexLeaf(10, 10, 0, 1), rect(50, 49, 1, 0), false},
		{impl.BoxBlock, extent{60, 41}, flexLeaf(10, 10, 0, 1), rect(30, 20, 0, 10), true},
		{impl.BoxBlock, extent{60, 41}, flexLeaf(10, 0, 1, 0), rect(30, 20, 0, 0), false},
		{impl.BoxBlock, extent{0, 0}, flexLeaf(10, 1, 1, 0), rect(0, 0, 0, 1), true},
	} {
		tree := []impl.Box{firstBox(c.kind, impl.MaxEdge, 0, 0), c.inner}
		what := fmt.Sprintf("(%v, %v)", tree, c.screen)
		checkRects(t, "LayoutTree"+what, impl.LayoutTree(tree, c.screen.w, c.screen.h), rect(0, 0, c.screen.w, c.screen.h), c.want)
		want := []int{1}
		if !c.spills {
			want = nil
		}
		checkRow(t, "Spilling"+what, impl.Spilling(tree, c.screen.w, c.screen.h), want...)
	}
}

func TestLayoutTreeOfGapsThatAreLargerThanBoxes(t *testing.T) {
	row := []impl.Box{firstBox(impl.BoxRow, 0, impl.MaxEdge, impl.JustifyEnd), flexLeaf(10, 1, 0, 1), flexLeaf(10, 1, 0, 1), flexLeaf(10, 1, 0, 0)}
	checkRects(t, "LayoutTree of gaps", impl.LayoutTree(row, 60, 5), rect(0, 0, 60, 5), rect(0, 0, 0, 5), rect(50, 0, 0, 5), rect(100, 0, 10, 5))
	checkRow(t, "Spilling of gaps", impl.Spilling(row, 60, 5), 3)
	checkRow(t, "Spilling of boxes without points", impl.Spilling(row, 49, 5), 2, 3)
	checkRow(t, "Spilling of boxes without points at the end", impl.Spilling(row, 50, 5), 3)
	block := []impl.Box{firstBox(impl.BoxBlock, 0, impl.MaxEdge, 0), leaf(0, 1, 0), leaf(0, 1, 0), leaf(0, 1, 0)}
	checkRects(t, "LayoutTree of gaps below each other", impl.LayoutTree(block, 3, 60), rect(0, 0, 3, 60), rect(0, 0, 3, 0), rect(0, 50, 3, 0), rect(0, 100, 3, 0))
	checkRow(t, "Spilling of gaps below each other", impl.Spilling(block, 3, 60), 3)
}

func TestSpillingExamples(t *testing.T) {
	tree := []impl.Box{
		firstBox(impl.BoxRow, 0, 0, 0), {Parent: 0, Kind: impl.BoxBlock, Pad: 5, Shrink: 1}, leaf(1, 10, 20), leaf(1, 10, 20),
		{Parent: 0, Kind: impl.BoxColumn}, leaf(4, 30, 10), box(4, impl.BoxRow), leaf(6, 30, 10), leaf(6, 31, 10),
	}
	checkRow(t, "Spilling with room", impl.Spilling(tree, 81, 50))
	checkRow(t, "Spilling of an inner box", impl.Spilling(tree, 81, 49), 3)
	checkRow(t, "Spilling of both inner boxes", impl.Spilling(tree, 81, 29), 2, 3)
	checkRow(t, "Spilling of a box behind one that shrinks", impl.Spilling(tree, 70, 50))
	checkRow(t, "Spilling of a box behind one without width", impl.Spilling(tree, 60, 50), 4)
	checkRow(t, "Spilling of boxes side by side and below each other", impl.Spilling(tree, 60, 19), 2, 3, 4, 6)
	checkRow(t, "Spilling of boxes in a box that spills", impl.Spilling(tree, 81, 0), 2, 3, 5, 6)
	checkRow(t, "Spilling of one box", impl.Spilling([]impl.Box{leaf(-1, 100, 100)}, 0, 0))
}

func TestSpillingOfAllTrees(t *testing.T) {
	eachLayout(t, func(tree []impl.Box, screen extent, rects []impl.Rect) {
		var want []int
		for at := 1; at < len(tree); at++ {
			around := tree[at].Parent
			if !isInside(rects[at], innerOf(t, tree[around], rects[around])) {
				want = append(want, at)
			}
		}
		checkRow(t, fmt.Sprintf("Spilling(%v, %v)", tree, screen), impl.Spilling(tree, screen.w, screen.h), want...)
	})
}

// checkNoLayout reports an error unless there is no layout for some arguments.
func checkNoLayout(t *testing.T, tree []impl.Box, w int, h int) {
	t.Helper()
	what := fmt.Sprintf("(%v, %d, %d)", tree, w, h)
	if rects := impl.LayoutTree(tree, w, h); rects != nil {
		t.Errorf("LayoutTree%s = %v, want nil", what, rects)
	}
	checkNil(t, "Spilling"+what, impl.Spilling(tree, w, h))
	for at := -1; at <= len(tree); at++ {
		r, ok := impl.RectOf(tree, w, h, at)
		checkNoRect(t, fmt.Sprintf("RectOf%s of %d", what, at), r, ok)
	}
}

func TestLayoutsOfWrongArguments(t *testing.T) {
	for _, tree := range wrongTrees() {
		for _, screen := range screens {
			checkNoLayout(t, tree, screen.w, screen.h)
		}
	}
	for _, tree := range trees() {
		for _, n := range wrongSizes {
			checkNoLayout(t, tree, n, 50)
			checkNoLayout(t, tree, 50, n)
			checkNoLayout(t, tree, n, n)
		}
		for _, at := range noBoxes(tree) {
			r, ok := impl.RectOf(tree, 100, 100, at)
			checkNoRect(t, fmt.Sprintf("RectOf(%v) of %d", tree, at), r, ok)
		}
	}
}

func TestLayoutsKeepTheirArguments(t *testing.T) {
	for _, tree := range trees() {
		given, copied := withSpare(tree), withSpare(tree)
		rects := impl.LayoutTree(given, 60, 40)
		spilling := impl.Spilling(given, 60, 40)
		keptRects, keptSpilling := slices.Clone(rects), slices.Clone(spilling)
		impl.RectOf(given, 60, 40, 0)
		for i := range rects[:cap(rects)] {
			rects[:cap(rects)][i] = rect(-77, -77, -77, -77)
		}
		for i := range spilling[:cap(spilling)] {
			spilling[:cap(spilling)][i] = -77
		}
		if all := len(tree) + 3; !slices.Equal(given[:all], copied[:all]) {
			t.Errorf("a tree is changed: %v, was %v", given[:all], copied[:all])
		}
		checkRects(t, "LayoutTree the second time", impl.LayoutTree(given, 60, 40), keptRects...)
		checkRow(t, "Spilling the second time", impl.Spilling(given, 60, 40), keptSpilling...)
	}
}

// P39
func TestLayoutsHaveAllBoxes(t *testing.T) {
	eachLayout(t, func(tree []impl.Box, screen extent, rects []impl.Rect) {
		for at, r := range rects {
			if !impl.ValidRect(r) {
				t.Errorf("LayoutTree(%v, %v) has %v for box %d", tree, screen, r, at)
			}
		}
		if rects[0] != rect(0, 0, screen.w, screen.h) {
			t.Errorf("LayoutTree(%v, %v) has %v for the first box", tree, screen, rects[0])
		}
	})
}

// P40
func TestBoxesSideBySideDoNotOverlap(t *testing.T) {
	eachLayout(t, func(tree []impl.Box, screen extent, rects []impl.Rect) {
		for at := range tree {
			kids := impl.KidsOf(tree, at)
			for i, a := range kids {
				for _, b := range kids[i+1:] {
					if r, ok := impl.MeetRects(rects[a], rects[b]); ok {
						t.Errorf("LayoutTree(%v, %v): boxes %d and %d have %v in common", tree, screen, a, b, r)
					}
				}
			}
		}
	})
}

// P41
func TestBoxesFillTheirBoxesAcross(t *testing.T) {
	eachLayout(t, func(tree []impl.Box, screen extent, rects []impl.Rect) {
		for at, b := range tree {
			inner := innerOf(t, b, rects[at])
			for _, kid := range impl.KidsOf(tree, at) {
				r := rects[kid]
				fills := r.X == inner.X && r.W == inner.W
				if b.Kind == impl.BoxRow {
					fills = r.Y == inner.Y && r.H == inner.H
				}
				if !fills {
					t.Errorf("LayoutTree(%v, %v) has %v for box %d, in %v", tree, screen, r, kid, inner)
				}
			}
		}
	})
}

// P42
func TestBlocksGiveBoxesWhatTheyNeed(t *testing.T) {
	eachLayout(t, func(tree []impl.Box, screen extent, rects []impl.Rect) {
		for at, b := range tree {
			if b.Kind != impl.BoxBlock {
				continue
			}
			top := innerOf(t, b, rects[at]).Y
			for _, kid := range impl.KidsOf(tree, at) {
				if r := rects[kid]; r.Y != top || r.H != mustNeed(t, tree, kid).h {
					t.Errorf("LayoutTree(%v, %v) has %v for box %d", tree, screen, r, kid)
				}
				top = rects[kid].Y + rects[kid].H + b.Gap
			}
		}
	})
}

// P43
func TestRowsAreFlexible(t *testing.T) {
	eachLayout(t, func(tree []impl.Box, screen extent, rects []impl.Rect) {
		kids := impl.KidsOf(tree, 0)
		if tree[0].Kind != impl.BoxRow || len(kids) == 0 {
			return
		}
		var list []impl.Flex
		var widths []int
		for _, kid := range kids {
			list = append(list, flex(mustNeed(t, tree, kid).w, 0, impl.MaxBox, tree[kid].Grow, tree[kid].Shrink))
			widths = append(widths, rects[kid].W)
		}
		room := max(0, screen.w-2*tree[0].Pad)
		room = max(0, room-tree[0].Gap*(len(kids)-1))
		checkRow(t, fmt.Sprintf("widths of LayoutTree(%v, %v)", tree, screen), widths, impl.FlexSizes(list, room)...)
	})
}

// P44
func TestBoxesHaveRectangles(t *testing.T) {
	for _, tree := range trees() {
		for _, screen := range screens {
			rects := impl.LayoutTree(tree, screen.w, screen.h)
			for at := range tree {
				r, ok := impl.RectOf(tree, screen.w, screen.h, at)
				checkRect(t, fmt.Sprintf("RectOf(%v, %v) of %d", tree, screen, at), r, ok, rects[at])
			}
		}
	}
}

// P45
func TestPartsAreLaidOutAlone(t *testing.T) {
	eachLayout(t, func(tree []impl.Box, screen extent, rects []impl.Rect) {
		for at, r := range rects {
			part, ok := impl.PartOf(tree, at)
			what := fmt.Sprintf("LayoutTree(%v, %d, %d), in %v", part, r.W, r.H, tree)
			mustTree(t, what, part, ok)
			want := slices.Clone(rects[at : at+len(part)])
			for i := range want {
				want[i].X, want[i].Y = want[i].X-r.X, want[i].Y-r.Y
			}
			checkRects(t, what, impl.LayoutTree(part, r.W, r.H), want...)
		}
	})
}

// P46
func TestBoxesThatDoNotSpillAreInside(t *testing.T) {
	eachLayout(t, func(tree []impl.Box, screen extent, rects []impl.Rect) {
		spilling := impl.Spilling(tree, screen.w, screen.h)
		for at := 1; at < len(tree); at++ {
			around := tree[at].Parent
			inside := isInside(rects[at], innerOf(t, tree[around], rects[around]))
			if slices.Contains(spilling, at) == inside {
				t.Errorf("Spilling(%v, %v) = %v, but box %d has %v in %v", tree, screen, spilling, at, rects[at], rects[around])
			}
		}
		if slices.Contains(spilling, 0) {
			t.Errorf("Spilling(%v, %v) = %v", tree, screen, spilling)
		}
	})
}

// P47
func TestWhatFitsDoesNotSpill(t *testing.T) {
	for _, tree := range dressedTrees() {
		need := mustNeed(t, tree, 0)
		for _, screen := range append([]extent{need, {need.w + 1, need.h}, {need.w, need.h + 1}}, screens...) {
			if !impl.FitsIn(tree, screen.w, screen.h) {
				continue
			}
			for _, at := range impl.Spilling(tree, screen.w, screen.h) {
				if tree[at].Parent == 0 {
					t.Errorf("box %d of Spilling(%v, %v) is in the first box", at, tree, screen)
				}
			}
		}
	}
}

// P148
func TestBoxesSideBySideKeepTheirOrder(t *testing.T) {
	eachLayout(t, func(tree []impl.Box, screen extent, rects []impl.Rect) {
		for at, b := range tree {
			kids := impl.KidsOf(tree, at)
			for i := 1; i < len(kids); i++ {
				before, r := rects[kids[i-1]], rects[kids[i]]
				behind := r.Y >= before.Y+before.H+b.Gap
				if b.Kind == impl.BoxRow {
					behind = r.X >= before.X+before.W+b.Gap
				}
				if !behind {
					t.Errorf("LayoutTree(%v, %v) has %v for box %d, behind %v", tree, screen, r, kids[i], before)
				}
			}
		}
	})
}

// P149
func TestHeightsDoNotDependOnTheWidth(t *testing.T) {
	eachLayout(t, func(tree []impl.Box, screen extent, rects []impl.Rect) {
		for _, w := range []int{0, screen.w / 2, min(screen.w+1, impl.MaxBox), impl.MaxBox} {
			for at, r := range impl.LayoutTree(tree, w, screen.h) {
				if r.H != rects[at].H || r.Y != rects[at].Y {
					t.Errorf("LayoutTree(%v, %d, %d) has %v for box %d, was %v", tree, w, screen.h, r, at, rects[at])
				}
			}
		}
	})
}

// P151
func TestLargeScreensHaveRoomForWhatNeedsIt(t *testing.T) {
	for _, tree := range dressedTrees() {
		for _, at := range impl.Spilling(tree, impl.MaxBox, impl.MaxBox) {
			if tree[at].Parent == 0 {
				t.Errorf("box %d of Spilling(%v) on the largest screen is in the first box", at, tree)
			}
		}
	}
}
