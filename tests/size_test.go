package tests

import (
	"fmt"
	"math"
	"slices"
	"testing"

	"loop.example/flexlayout/impl"
)

func TestNaturalSizeOfAllTrees(t *testing.T) {
	eachDressedBox(func(tree []impl.Box, at int) {
		if got, want := mustNeed(t, tree, at), needOf(tree, at); got != want {
			t.Errorf("NaturalSize(%v, %d) = %v, want %v", tree, at, got, want)
		}
	})
}

func TestNaturalSizeExamples(t *testing.T) {
	row := []impl.Box{{Parent: -1, Kind: impl.BoxRow, Pad: 2, Gap: 3}, leaf(0, 10, 5), leaf(0, 20, 8), leaf(0, 1, 1)}
	block, column := slices.Clone(row), slices.Clone(row)
	block[0].Kind, column[0].Kind = impl.BoxBlock, impl.BoxColumn
	one := []impl.Box{{Parent: -1, Kind: impl.BoxRow, Pad: 2, Gap: 50}, leaf(0, 10, 5)}
	for _, c := range []struct {
		what string
		tree []impl.Box
		want extent
	}{
		{"a row", row, extent{31 + 6 + 4, 8 + 4}},
		{"a block", block, extent{20 + 4, 14 + 6 + 4}},
		{"a column", column, extent{20 + 4, 14 + 6 + 4}},
		{"one box in a row, without a gap", one, extent{14, 9}},
		{"an empty row with a gap", []impl.Box{{Parent: -1, Kind: impl.BoxRow, Gap: 50}}, extent{0, 0}},
		{"an empty block with a pad", []impl.Box{{Parent: -1, Kind: impl.BoxBlock, Gap: 50, Pad: 7}}, extent{14, 14}},
		{"an empty column with the greatest pad", []impl.Box{{Parent: -1, Kind: impl.BoxColumn, Gap: 50, Pad: impl.MaxEdge}}, extent{100, 100}},
		{"a leaf whose gap does not count", []impl.Box{{Parent: -1, W: 7, H: 0, Gap: 50, Pad: 3}}, extent{13, 6}},
		{"the largest leaf", []impl.Box{{Parent: -1, W: impl.MaxLeaf, H: impl.MaxLeaf, Pad: impl.MaxEdge}}, extent{200, 200}},
		{"the largest row", largestTrees()[1], extent{100 + 6*200 + 6*50 + 100 + 8*200 + 7*50, 400}},
	} {
		if got := mustNeed(t, c.tree, 0); got != c.want {
			t.Errorf("NaturalSize of %s = %v, want %v", c.what, got, c.want)
		}
	}
	nested := []impl.Box{{Parent: -1, Kind: impl.BoxRow, Gap: 1}, {Parent: 0, Kind: impl.BoxColumn, Gap: 10, Pad: 5}, leaf(1, 3, 4), leaf(1, 6, 2), leaf(0, 9, 40)}
	for at, want := range []extent{{16 + 1 + 9, 40}, {16, 26}, {3, 4}, {6, 2}, {9, 40}} {
		if got := mustNeed(t, nested, at); got != want {
			t.Errorf("NaturalSize(%v, %d) = %v, want %v", nested, at, got, want)
		}
	}
}

func TestSizesOfWrongArguments(t *testing.T) {
	eachWrongBox(func(tree []impl.Box, at int) {
		if w, h, ok := impl.NaturalSize(tree, at); w != 0 || h != 0 || ok {
			t.Errorf("NaturalSize(%v, %d) = %d, %d, %v", tree, at, w, h, ok)
		}
		if n := impl.WidestKid(tree, at); n != -1 {
			t.Errorf("WidestKid(%v, %d) = %d", tree, at, n)
		}
	})
	for _, tree := range wrongTrees() {
		for _, n := range []int{0, 1, impl.MaxBox, math.MaxInt, math.MinInt} {
			if impl.FitsIn(tree, n, n) {
				t.Errorf("FitsIn(%v, %d, %d)", tree, n, n)
			}
		}
	}
}

func TestSizesChangeNothing(t *testing.T) {
	for _, tree := range trees() {
		given, copied := withSpare(tree), withSpare(tree)
		for at := range tree {
			impl.NaturalSize(given, at)
			impl.WidestKid(given, at)
		}
		impl.FitsIn(given, 10, 10)
		if all := len(tree) + 3; !slices.Equal(given[:all], copied[:all]) {
			t.Errorf("a tree is changed: %v, was %v", given[:all], copied[:all])
		}
	}
}

func TestWidestKidExamples(t *testing.T) {
	for _, c := range []struct {
		what string
		tree []impl.Box
		at   int
		want int
	}{
		{"several as wide", []impl.Box{box(-1, impl.BoxColumn), leaf(0, 5, 1), leaf(0, 9, 1), leaf(0, 9, 50), leaf(0, 8, 1)}, 0, 2},
		{"boxes without width", []impl.Box{box(-1, impl.BoxRow), leaf(0, 0, 9), box(0, impl.BoxRow)}, 0, 1},
		{"a box that is wide by its pad", []impl.Box{box(-1, impl.BoxRow), leaf(0, 20, 1), {Parent: 0, W: 1, Pad: 10}, leaf(0, 21, 1)}, 0, 2},
		{"a box that is wide by its boxes", []impl.Box{box(-1, impl.BoxBlock), leaf(0, 19, 1), box(0, impl.BoxRow), leaf(2, 10, 1), leaf(2, 10, 1)}, 0, 2},
		{"a box that is high", []impl.Box{box(-1, impl.BoxBlock), leaf(0, 19, 1), box(0, impl.BoxColumn), leaf(2, 10, 90), leaf(2, 10, 90)}, 0, 1},
		{"an inner box", []impl.Box{box(-1, impl.BoxBlock), leaf(0, 99, 1), box(0, impl.BoxRow), leaf(2, 10, 1), leaf(2, 11, 1)}, 2, 4},
		{"a leaf", []impl.Box{box(-1, impl.BoxBlock), leaf(0, 99, 1)}, 1, -1},
		{"an empty block", []impl.Box{box(-1, impl.BoxBlock)}, 0, -1},
	} {
		if got := impl.WidestKid(c.tree, c.at); got != c.want {
			t.Errorf("WidestKid of %s = %d, want %d", c.what, got, c.want)
		}
	}
}

// P32
func TestPartsKeepTheirSizes(t *testing.T) {
	eachDressedBox(func(tree []impl.Box, at int) {
		part, ok := impl.PartOf(tree, at)
		mustTree(t, fmt.Sprintf("PartOf(%v, %d)", tree, at), part, ok)
		for i := range part {
			if got, want := mustNeed(t, part, i), mustNeed(t, tree, at+i); got != want {
				t.Errorf("NaturalSize(%v, %d) = %v, want %v", part, i, got, want)
			}
		}
	})
}

// P34
func TestLeavesHaveTheirSizes(t *testing.T) {
	eachDressedBox(func(tree []impl.Box, at int) {
		b, got := tree[at], mustNeed(t, tree, at)
		if b.Kind == impl.BoxLeaf && got != (extent{b.W + 2*b.Pad, b.H + 2*b.Pad}) || got.w < 2*b.Pad || got.h < 2*b.Pad {
			t.Errorf("NaturalSize(%v, %d) = %v", tree, at, got)
		}
	})
}

// P35
func TestBoxesNeedRoomForTheirBoxes(t *testing.T) {
	eachDressedBox(func(tree []impl.Box, at int) {
		got := mustNeed(t, tree, at)
		for _, kid := range impl.KidsOf(tree, at) {
			if inner := mustNeed(t, tree, kid); got.w < inner.w+2*tree[at].Pad || got.h < inner.h+2*tree[at].Pad {
				t.Errorf("NaturalSize(%v, %d) = %v, has %v", tree, at, got, inner)
			}
		}
	})
}

// P36
func TestRowsAddWidthsAndAllOthersHeights(t *testing.T) {
	eachDressedBox(func(tree []impl.Box, at int) {
		b, got, kids := tree[at], mustNeed(t, tree, at), impl.KidsOf(tree, at)
		if len(kids) == 0 {
			return
		}
		along, across := 0, 0
		for _, kid := range kids {
			inner := mustNeed(t, tree, kid)
			if b.Kind != impl.BoxRow {
				inner = extent{inner.h, inner.w}
			}
			along, across = along+inner.w, max(across, inner.h)
		}
		want := extent{along + (len(kids)-1)*b.Gap + 2*b.Pad, across + 2*b.Pad}
		if b.Kind != impl.BoxRow {
			want = extent{want.h, want.w}
		}
		if got != want {
			t.Errorf("NaturalSize(%v, %d) = %v, want %v", tree, at, got, want)
		}
	})
}

// P37
func TestTreesFitInWhatTheyNeed(t *testing.T) {
	for _, tree := range dressedTrees() {
		need := mustNeed(t, tree, 0)
		for _, c := range []struct {
			w, h int
			want bool
		}{
			{need.w, need.h, true}, {need.w - 1, need.h, false}, {need.w, need.h - 1, false}, {need.w - 1, need.h - 1, false},
			{need.w + 1, need.h, true}, {need.w, need.h + 1, true}, {need.w + 1, need.h - 1, false}, {need.w - 1, need.h + 1, false},
			{math.MaxInt, math.MaxInt, true}, {math.MinInt, need.h, false}, {need.w, math.MinInt, false}, {-1, -1, false},
		} {
			if got := impl.FitsIn(tree, c.w, c.h); got != c.want {
				t.Errorf("FitsIn(%v, %d, %d) = %v, needs %v", tree, c.w, c.h, got, need)
			}
		}
	}
}

// P38
func TestTheWidestBoxIsWidest(t *testing.T) {
	eachDressedBox(func(tree []impl.Box, at int) {
		widest, want, width := impl.WidestKid(tree, at), -1, -1
		for _, kid := range impl.KidsOf(tree, at) {
			if w := mustNeed(t, tree, kid).w; w > width {
				want, width = kid, w
			}
		}
		if widest != want {
			t.Errorf("WidestKid(%v, %d) = %d, want %d", tree, at, widest, want)
		}
	})
}

// P140
func TestAddedBoxesNeedRoom(t *testing.T) {
	eachDressedBox(func(tree []impl.Box, at int) {
		before := mustNeed(t, tree, 0)
		for _, b := range extras() {
			out, ok := impl.AddBox(tree, at, b)
			if !ok {
				continue
			}
			if got := mustNeed(t, out, 0); got.w < before.w || got.h < before.h {
				t.Errorf("NaturalSize(%v, 0) = %v, was %v", out, got, before)
			}
		}
	})
}

// P145
func TestPadsMakeBoxesLarger(t *testing.T) {
	eachDressedBox(func(tree []impl.Box, at int) {
		style := tree[at]
		if style.Pad == impl.MaxEdge {
			return
		}
		style.Pad++
		out, ok := impl.StyleBox(tree, at, style)
		mustTree(t, fmt.Sprintf("StyleBox(%v, %d, %v)", tree, at, style), out, ok)
		before, got := mustNeed(t, tree, at), mustNeed(t, out, at)
		if got != (extent{before.w + 2, before.h + 2}) {
			t.Errorf("NaturalSize(%v, %d) = %v, was %v", out, at, got, before)
		}
	})
}

// P146
func TestLargerScreensHaveRoom(t *testing.T) {
	for _, tree := range dressedTrees() {
		for _, screen := range screens {
			fits := impl.FitsIn(tree, screen.w, screen.h)
			for _, larger := range []extent{{screen.w + 1, screen.h}, {screen.w, screen.h + 1}, {screen.w + 90, screen.h + 70}, {math.MaxInt, screen.h}} {
				if fits && !impl.FitsIn(tree, larger.w, larger.h) {
					t.Errorf("FitsIn(%v, %v), but not in %v", tree, screen, larger)
				}
			}
		}
	}
}

// P147
func TestWidestBoxesMakeBoxesWide(t *testing.T) {
	eachDressedBox(func(tree []impl.Box, at int) {
		widest := impl.WidestKid(tree, at)
		if tree[at].Kind == impl.BoxRow || widest < 0 {
			return
		}
		if got, want := mustNeed(t, tree, at).w, mustNeed(t, tree, widest).w+2*tree[at].Pad; got != want {
			t.Errorf("NaturalSize(%v, %d) has the width %d, want %d", tree, at, got, want)
		}
	})
}
