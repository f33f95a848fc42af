package tests

import (
	"fmt"
	"slices"
	"testing"

	"loop.example/flexlayout/impl"
)

// hitOf returns the greatest number of a box that has a point, like all boxes around it, or -1.
func hitOf(tree []impl.Box, rects []impl.Rect, x int, y int) int {
	hit := -1
	for at := range tree {
		all := true
		for _, around := range pathTo(tree, at) {
			r := rects[around]
			all = all && r.X <= x && x < r.X+r.W && r.Y <= y && y < r.Y+r.H
		}
		if all {
			hit = at
		}
	}
	return hit
}

// eachPoint calls a function with all shown trees, points at and beside the edges of their boxes, and the box at the point.
func eachPoint(t *testing.T, call func(tree []impl.Box, screen extent, rects []impl.Rect, x int, y int, hit int)) {
	t.Helper()
	try := func(tree []impl.Box, screen extent, rects []impl.Rect) {
		for _, p := range edgePoints(rects) {
			call(tree, screen, rects, p[0], p[1], impl.HitBox(tree, screen.w, screen.h, p[0], p[1]))
		}
	}
	eachShown(t, try)
	for h := range 50 {
		try(spillingTree(), extent{60, h}, impl.LayoutTree(spillingTree(), 60, h))
	}
}

// eachPair calls a function with all pairs of boxes of all trees.
func eachPair(call func(tree []impl.Box, a int, b int)) {
	eachBox(func(tree []impl.Box, a int) {
		for b := range tree {
			call(tree, a, b)
		}
	})
}

// leavesOf returns the numbers of the leaves of a tree.
func leavesOf(tree []impl.Box) []int {
	return boxesThat(tree, func(at int) bool { return tree[at].Kind == impl.BoxLeaf })
}

// eachLeafSearch calls a function with each box of trees of all kinds, the leaves of the tree, and NextLeaf.
func eachLeafSearch(call func(tree []impl.Box, at int, leaves []int, next int)) {
	for _, tree := range treesOfAllKinds() {
		leaves := leavesOf(tree)
		for at := range tree {
			call(tree, at, leaves, impl.NextLeaf(tree, at))
		}
	}
}

func TestHitBoxOfAllTrees(t *testing.T) {
	eachPoint(t, func(tree []impl.Box, screen extent, rects []impl.Rect, x int, y int, hit int) {
		if want := hitOf(tree, rects, x, y); hit != want {
			t.Errorf("HitBox(%v, %v, %d, %d) = %d, want %d", tree, screen, x, y, hit, want)
		}
	})
}

func TestHitBoxOfAllPointsOfSomeTrees(t *testing.T) {
	screen := extent{60, 40}
	list := [][]impl.Box{spillingTree(), styled([]int{-1, 0, 1, 1, 3, 0, 5, 0})}
	for _, dress := range dresses() {
		tree := spillingTree()
		for i := range tree {
			dress(i, &tree[i])
		}
		list = append(list, tree)
	}
	for _, tree := range list {
		rects := impl.LayoutTree(tree, screen.w, screen.h)
		for x := -2; x <= 80; x++ {
			for y := -2; y <= 60; y++ {
				if hit, want := impl.HitBox(tree, screen.w, screen.h, x, y), hitOf(tree, rects, x, y); hit != want {
					t.Errorf("HitBox(%v, %v, %d, %d) = %d, want %d", tree, screen, x, y, hit, want)
				}
			}
		}
	}
}

func TestHitBoxExamples(t *testing.T) {
	tree := spillingTree()
	for _, c := range []struct {
		what string
		x, y int
		want int
	}{
		{"the corner", 0, 0, 0}, {"the pad on the left", 4, 5, 0}, {"the pad at the top", 5, 4, 0}, {"the corner of a leaf", 5, 5, 2},
		{"its last point in the block", 14, 34, 2}, {"where it spills", 14, 35, 0}, {"where it spills, at the end of the screen", 5, 39, 0},
		{"where it spills, below the screen", 5, 40, -1}, {"the corner of the next leaf", 15, 5, 4}, {"its last point", 44, 34, 4},
		{"the point below", 44, 35, 0}, {"the corner of the last leaf", 45, 5, 5}, {"a point of it in the pad", 56, 10, 5},
		{"its last point on the screen", 59, 34, 5}, {"where it spills, beside the screen", 60, 34, -1}, {"its last point", 74, 34, -1},
		{"the last point of the screen", 59, 39, 0}, {"behind it", 60, 39, -1}, {"below it", 59, 40, -1}, {"before it", -1, 5, -1}, {"above it", 5, -1, -1},
	} {
		checkPlace(t, "HitBox of "+c.what, impl.HitBox(tree, 60, 40, c.x, c.y), c.want)
	}
}

func TestHitBoxOfBoxesThatSpillOverOthers(t *testing.T) {
	tree := []impl.Box{firstBox(impl.BoxColumn, 0, 0, 0), {Parent: 0, Kind: impl.BoxBlock, Shrink: 1}, leaf(1, 10, 40), leaf(0, 10, 10)}
	for y, want := range map[int]int{0: 2, 19: 2, 20: 3, 25: 3, 29: 3, 30: -1, 39: -1} {
		checkPlace(t, fmt.Sprintf("HitBox at %d", y), impl.HitBox(tree, 60, 30, 5, y), want)
	}
	tree[3].H = 0
	for y, want := range map[int]int{0: 2, 29: 2, 30: -1} {
		checkPlace(t, fmt.Sprintf("HitBox with a box without points at %d", y), impl.HitBox(tree, 60, 30, 5, y), want)
	}
}

func TestHitBoxOfBoxesWithoutPoints(t *testing.T) {
	for _, screen := range []extent{{0, 0}, {0, 40}, {60, 0}} {
		for x := -1; x <= 1; x++ {
			for y := -1; y <= 1; y++ {
				checkPlace(t, fmt.Sprintf("HitBox on %v", screen), impl.HitBox(spillingTree(), screen.w, screen.h, x, y), -1)
			}
		}
	}
	empty := []impl.Box{firstBox(impl.BoxRow, 0, 0, 0), leaf(0, 0, 10), leaf(0, 10, 10)}
	checkPlace(t, "HitBox of a box without points before another one", impl.HitBox(empty, 60, 40, 0, 0), 2)
	checkPlace(t, "HitBox of the largest screen", impl.HitBox(empty, impl.MaxBox, impl.MaxBox, impl.MaxBox-1, impl.MaxBox-1), 0)
	checkPlace(t, "HitBox beside the largest screen", impl.HitBox(empty, impl.MaxBox, impl.MaxBox, impl.MaxBox, 0), -1)
}

func TestHitBoxOfWrongArguments(t *testing.T) {
	for _, tree := range wrongTrees() {
		for _, n := range []int{-1, 0, 5} {
			checkPlace(t, fmt.Sprintf("HitBox(%v) at %d", tree, n), impl.HitBox(tree, 100, 50, n, n), -1)
		}
	}
	for _, tree := range trees() {
		for _, n := range wrongSizes {
			checkPlace(t, fmt.Sprintf("HitBox(%v, %d, 50)", tree, n), impl.HitBox(tree, n, 50, 0, 0), -1)
			checkPlace(t, fmt.Sprintf("HitBox(%v, 50, %d)", tree, n), impl.HitBox(tree, 50, n, 0, 0), -1)
		}
		for _, far := range append([]int{-impl.MaxPlace, impl.MaxPlace, impl.MaxSize + 1}, farNumbers...) {
			checkPlace(t, fmt.Sprintf("HitBox(%v) at %d, 0", tree, far), impl.HitBox(tree, 100, 50, far, 0), -1)
			checkPlace(t, fmt.Sprintf("HitBox(%v) at 0, %d", tree, far), impl.HitBox(tree, 100, 50, 0, far), -1)
			checkPlace(t, fmt.Sprintf("HitBox(%v) at %d, %d", tree, far, far), impl.HitBox(tree, 100, 50, far, far), -1)
		}
	}
}

func TestPathsExample(t *testing.T) {
	tree := styled([]int{-1, 0, 1, 1, 3, 0, 5, 0})
	for at, want := range [][]int{{0}, {0, 1}, {0, 1, 2}, {0, 1, 3}, {0, 1, 3, 4}, {0, 5}, {0, 5, 6}, {0, 7}} {
		checkRow(t, fmt.Sprintf("PathTo %d", at), impl.PathTo(tree, at), want...)
	}
	for _, c := range [][3]int{{0, 0, 0}, {4, 4, 4}, {4, 3, 3}, {4, 1, 1}, {4, 0, 0}, {2, 4, 1}, {2, 3, 1}, {4, 6, 0}, {6, 7, 0}, {5, 6, 5}, {1, 5, 0}} {
		checkPlace(t, fmt.Sprintf("CommonBox of %d and %d", c[0], c[1]), impl.CommonBox(tree, c[0], c[1]), c[2])
	}
	deep := styled(chain(impl.MaxDepth))
	checkRow(t, "PathTo the deepest box", impl.PathTo(deep, impl.MaxDepth), 0, 1, 2, 3, 4, 5)
	checkPlace(t, "CommonBox of the deepest boxes", impl.CommonBox(deep, impl.MaxDepth, impl.MaxDepth-1), impl.MaxDepth-1)
}

func TestPathsOfAllTrees(t *testing.T) {
	eachBox(func(tree []impl.Box, at int) {
		checkRow(t, fmt.Sprintf("PathTo(%v, %d)", tree, at), impl.PathTo(tree, at), backwards(pathTo(tree, at))...)
	})
	eachPair(func(tree []impl.Box, a int, b int) {
		want := slices.Max(boxesThat(tree, func(at int) bool { return impl.IsAround(tree, at, a) && impl.IsAround(tree, at, b) }))
		if n := impl.CommonBox(tree, a, b); n != want {
			t.Errorf("CommonBox(%v, %d, %d) = %d, want %d", tree, a, b, n, want)
		}
	})
}

func TestNextLeafExamples(t *testing.T) {
	leaf, block, row := impl.BoxLeaf, impl.BoxBlock, impl.BoxRow
	for _, c := range []struct {
		what    string
		parents []int
		kinds   []int
		want    []int
	}{
		{"a leaf", []int{-1}, []int{leaf}, []int{0}},
		{"a block", []int{-1}, []int{block}, []int{-1}},
		{"blocks", []int{-1, 0, 0}, []int{block, row, block}, []int{-1, -1, -1}},
		{"one leaf behind blocks", []int{-1, 0, 0, 2}, []int{block, row, block, leaf}, []int{3, 3, 3, 3}},
		{"one leaf before blocks", []int{-1, 0, 0, 2}, []int{block, leaf, block, row}, []int{1, 1, 1, 1}},
		{"leaves in a row, and beside it", []int{-1, 0, 1, 1, 0}, []int{block, row, leaf, leaf, leaf}, []int{2, 2, 3, 4, 2}},
		{"leaves before and in a row", []int{-1, 0, 0, 2, 2}, []int{block, leaf, row, leaf, row}, []int{1, 3, 3, 1, 1}},
	} {
		tree := make([]impl.Box, len(c.kinds))
		next := make([]int, len(c.kinds))
		for at, kind := range c.kinds {
			tree[at] = box(c.parents[at], kind)
		}
		for at := range tree {
			next[at] = impl.NextLeaf(tree, at)
		}
		checkRow(t, "all NextLeaf of "+c.what, next, c.want...)
	}
}

func TestHitsOfWrongBoxes(t *testing.T) {
	eachWrongBox(func(tree []impl.Box, at int) {
		what := fmt.Sprintf("(%v, %d)", tree, at)
		checkNil(t, "PathTo"+what, impl.PathTo(tree, at))
		checkPlace(t, "NextLeaf"+what, impl.NextLeaf(tree, at), -1)
		checkPlace(t, "CommonBox"+what+" and itself", impl.CommonBox(tree, at, at), -1)
		checkPlace(t, "CommonBox"+what+" and 0", impl.CommonBox(tree, at, 0), -1)
		checkPlace(t, "CommonBox"+what+" of 0", impl.CommonBox(tree, 0, at), -1)
		checkPlace(t, "CommonBox"+what+" of the last box", impl.CommonBox(tree, len(tree)-1, at), -1)
	})
}

func TestHitsChangeNothing(t *testing.T) {
	for _, tree := range trees() {
		given, copied := withSpare(tree), withSpare(tree)
		for at := range tree {
			first := impl.PathTo(given, at)
			kept := slices.Clone(first)
			spoil(first)
			checkRow(t, fmt.Sprintf("PathTo(%v, %d) again", tree, at), impl.PathTo(given, at), kept...)
			impl.HitBox(given, 100, 50, 3*at, 2*at)
			impl.CommonBox(given, at, len(tree)-1)
			impl.NextLeaf(given, at)
		}
		if all := len(tree) + 3; !slices.Equal(given[:all], copied[:all]) {
			t.Errorf("a tree is changed: %v, was %v", given[:all], copied[:all])
		}
	}
}

// P88
func TestHitsAreInAllBoxesAroundThem(t *testing.T) {
	hits := 0
	eachPoint(t, func(tree []impl.Box, screen extent, rects []impl.Rect, x int, y int, hit int) {
		if hit < 0 {
			return
		}
		hits++
		path := impl.PathTo(tree, hit)
		if !slices.Contains(path, hit) {
			t.Fatalf("PathTo(%v, %d) = %v", tree, hit, path)
		}
		for _, around := range path {
			if !impl.InRect(rects[around], x, y) {
				t.Errorf("HitBox(%v, %v, %d, %d) = %d, but the point is not in %d", tree, screen, x, y, hit, around)
			}
		}
	})
	if hits == 0 {
		t.Error("no point hits a box")
	}
}

// P89
func TestTheInnermostBoxIsHit(t *testing.T) {
	eachPoint(t, func(tree []impl.Box, screen extent, rects []impl.Rect, x int, y int, hit int) {
		for _, kid := range impl.KidsOf(tree, hit) {
			if impl.InRect(rects[kid], x, y) {
				t.Errorf("HitBox(%v, %v, %d, %d) = %d, but the point is in %d", tree, screen, x, y, hit, kid)
			}
		}
	})
}

// P90
func TestOnlyTheScreenCanBeHit(t *testing.T) {
	eachPoint(t, func(tree []impl.Box, screen extent, rects []impl.Rect, x int, y int, hit int) {
		onScreen := 0 <= x && x < screen.w && 0 <= y && y < screen.h
		if onScreen == (hit == -1) || hit < -1 || hit >= len(tree) {
			t.Errorf("HitBox(%v, %v, %d, %d) = %d", tree, screen, x, y, hit)
		}
	})
}

// P91
func TestPathsLeadFromTheFirstBoxToTheBox(t *testing.T) {
	eachBox(func(tree []impl.Box, at int) {
		path := impl.PathTo(tree, at)
		if len(path) == 0 || path[0] != 0 || path[len(path)-1] != at {
			t.Fatalf("PathTo(%v, %d) = %v", tree, at, path)
		}
		for i := 1; i < len(path); i++ {
			if !slices.Contains(impl.KidsOf(tree, path[i-1]), path[i]) {
				t.Errorf("PathTo(%v, %d) = %v, with %d, which is not directly in the one before", tree, at, path, path[i])
			}
		}
	})
}

// P92
func TestPathsHaveAllBoxesAround(t *testing.T) {
	eachBox(func(tree []impl.Box, at int) {
		around := boxesThat(tree, func(outer int) bool { return impl.IsAround(tree, outer, at) })
		checkRow(t, fmt.Sprintf("PathTo(%v, %d)", tree, at), impl.PathTo(tree, at), around...)
	})
}

// P93
func TestCommonBoxesAreAroundBoth(t *testing.T) {
	eachPair(func(tree []impl.Box, a int, b int) {
		common := impl.CommonBox(tree, a, b)
		if !impl.IsAround(tree, common, a) || !impl.IsAround(tree, common, b) {
			t.Errorf("CommonBox(%v, %d, %d) = %d is not around both", tree, a, b, common)
		}
		for _, kid := range impl.KidsOf(tree, common) {
			if impl.IsAround(tree, kid, a) && impl.IsAround(tree, kid, b) {
				t.Errorf("CommonBox(%v, %d, %d) = %d, but %d is around both", tree, a, b, common, kid)
			}
		}
	})
}

// P94
func TestTheOrderOfBoxesDoesNotMatter(t *testing.T) {
	eachPair(func(tree []impl.Box, a int, b int) {
		if one, other := impl.CommonBox(tree, a, b), impl.CommonBox(tree, b, a); one != other || a == b && one != a {
			t.Errorf("CommonBox(%v) of %d and %d = %d, and %d in the other order", tree, a, b, one, other)
		}
	})
}

// P95
func TestLeavesFollowEachOther(t *testing.T) {
	eachLeafSearch(func(tree []impl.Box, at int, leaves []int, next int) {
		if len(leaves) == 0 {
			return
		}
		if !slices.Contains(leaves, next) {
			t.Errorf("NextLeaf(%v, %d) = %d is no leaf", tree, at, next)
		}
		for _, other := range leaves {
			between := at < other && other < next
			if next <= at {
				between = at < other || other < next
			}
			if between {
				t.Errorf("NextLeaf(%v, %d) = %d, with %d between", tree, at, next, other)
			}
		}
	})
}

// P96
func TestAllLeavesCome(t *testing.T) {
	eachLeafSearch(func(tree []impl.Box, at int, leaves []int, next int) {
		if tree[at].Kind != impl.BoxLeaf {
			return
		}
		var come []int
		for leaf := at; len(come) < len(leaves); {
			leaf = impl.NextLeaf(tree, leaf)
			come = append(come, leaf)
		}
		if come[len(come)-1] != at {
			t.Errorf("NextLeaf of %v leads from %d to %v", tree, at, come)
		}
		checkRow(t, fmt.Sprintf("all leaves from %d on, of %v", at, tree), slices.Sorted(slices.Values(come)), leaves...)
	})
}

// P150
func TestTheFirstBoxIsTheScreen(t *testing.T) {
	eachShown(t, func(tree []impl.Box, screen extent, rects []impl.Rect) {
		r, ok := impl.RectOf(tree, screen.w, screen.h, 0)
		checkRect(t, fmt.Sprintf("RectOf(%v, %v) of the first box", tree, screen), r, ok, rect(0, 0, screen.w, screen.h))
		for _, p := range edgePoints([]impl.Rect{r}) {
			if hit := impl.HitBox(tree, screen.w, screen.h, p[0], p[1]); impl.InRect(r, p[0], p[1]) != impl.IsAround(tree, 0, hit) {
				t.Errorf("HitBox(%v, %v, %v) = %d, with %v", tree, screen, p, hit, r)
			}
		}
	})
}

// P168
func TestHitBoxesAreSeen(t *testing.T) {
	eachPoint(t, func(tree []impl.Box, screen extent, rects []impl.Rect, x int, y int, hit int) {
		if seen := impl.SeenBoxes(tree, screen.w, screen.h, rect(x, y, 1, 1)); hit >= 0 && !slices.Contains(seen, hit) {
			t.Errorf("SeenBoxes(%v, %v) of the point %d, %d = %v, with HitBox %d", tree, screen, x, y, seen, hit)
		}
	})
}

// P169
func TestCornersAreHit(t *testing.T) {
	corners := 0
	eachShown(t, func(tree []impl.Box, screen extent, rects []impl.Rect) {
		spilling := impl.Spilling(tree, screen.w, screen.h)
		for at, r := range rects {
			if !hasPoints(r) || anyOf(impl.PathTo(tree, at), spilling) {
				continue
			}
			corners++
			if hit := impl.HitBox(tree, screen.w, screen.h, r.X, r.Y); !impl.IsAround(tree, at, hit) {
				t.Errorf("HitBox(%v, %v) of the corner of %d, %v, = %d", tree, screen, at, r, hit)
			}
		}
	})
	if corners == 0 {
		t.Error("all boxes spill, or have no points")
	}
}

// P170
func TestPathsBeginWithPaths(t *testing.T) {
	eachBox(func(tree []impl.Box, at int) {
		if path := impl.PathTo(tree, at); at > 0 && len(path) > 0 {
			checkRow(t, fmt.Sprintf("PathTo(%v, %d)", tree, tree[at].Parent), impl.PathTo(tree, tree[at].Parent), path[:len(path)-1]...)
		} else {
			checkRow(t, fmt.Sprintf("PathTo(%v, %d)", tree, at), path, 0)
		}
	})
}

// P171
func TestCommonBoxesAreTheLastOnesOfCommonPaths(t *testing.T) {
	eachPair(func(tree []impl.Box, a int, b int) {
		last, other := -1, impl.PathTo(tree, b)
		for _, at := range impl.PathTo(tree, a) {
			if slices.Contains(other, at) {
				last = at
			}
		}
		if common := impl.CommonBox(tree, a, b); common != last || last < 0 {
			t.Errorf("CommonBox(%v, %d, %d) = %d, but the last one on both paths is %d", tree, a, b, common, last)
		}
	})
}

// P172
func TestTreesWithoutLeavesHaveNone(t *testing.T) {
	with, without := 0, 0
	eachLeafSearch(func(tree []impl.Box, at int, leaves []int, next int) {
		if (next == -1) != (len(leaves) == 0) || next < -1 || next >= len(tree) {
			t.Errorf("NextLeaf(%v, %d) = %d, with the leaves %v", tree, at, next, leaves)
		}
		if len(leaves) == 0 {
			without++
		} else {
			with++
		}
	})
	if with == 0 || without == 0 {
		t.Errorf("%d boxes are in trees with leaves, and %d in trees without", with, without)
	}
}
