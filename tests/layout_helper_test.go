package tests

import (
	"slices"
	"testing"

	"loop.example/flexlayout/impl"
)

// extent is a width and a height.
type extent struct {
	w int
	h int
}

// screens are the sizes for which trees are laid out.
var screens = []extent{
	{0, 0}, {1, 1}, {0, 40}, {37, 0}, {60, 41}, {99, 101}, {100, 50}, {203, 350}, {1000, 700},
	{impl.MaxBox, 0}, {0, impl.MaxBox}, {impl.MaxBox, impl.MaxBox},
}

// wrongSizes are no sizes of a screen.
var wrongSizes = append([]int{-1, impl.MaxBox + 1}, farNumbers...)

// dresses returns functions that style the box with a number: with and without pads and gaps, that grow, shrink, or need more than there is.
func dresses() []func(i int, b *impl.Box) {
	return []func(i int, b *impl.Box){
		func(i int, b *impl.Box) {},
		func(i int, b *impl.Box) { b.Pad, b.Gap = 2, 3 },
		func(i int, b *impl.Box) { b.Pad, b.Gap, b.Justify = impl.MaxEdge, impl.MaxEdge, impl.JustifyEnd },
		func(i int, b *impl.Box) { b.Pad, b.Gap, b.Grow, b.Shrink, b.Justify = i, 1, 1+i%10, 4-i%3, i%4 },
		func(i int, b *impl.Box) { b.Pad, b.Gap, b.Shrink, b.Justify = 41/(i+1), 7, 1+i%3, 3-i%4 },
		func(i int, b *impl.Box) { b.Gap, b.Grow, b.Justify = 11, i%2*5, (i+2)%4 },
	}
}

// kindsOf returns trees with these parents in which boxes have all kinds; those without boxes are a leaf, an empty leaf, or a row.
func kindsOf(parents []int) [][]impl.Box {
	out := [][]impl.Box{nil}
	for i, p := range parents {
		var looks []impl.Box
		if slices.Contains(parents, i) {
			looks = []impl.Box{box(p, impl.BoxBlock), box(p, impl.BoxRow), box(p, impl.BoxColumn)}
		} else {
			looks = []impl.Box{leaf(p, 13+10*i, max(0, 29-7*i)), leaf(p, 0, 0), box(p, impl.BoxRow)}
		}
		var longer [][]impl.Box
		for _, tree := range out {
			for _, look := range looks {
				longer = append(longer, append(slices.Clone(tree), look))
			}
		}
		out = longer
	}
	return out
}

// treesOfAllKinds returns trees of all small shapes in which boxes have all kinds, and deep ones.
func treesOfAllKinds() [][]impl.Box {
	out := trees()
	eachShape(4, func(parents []int) { out = append(out, kindsOf(parents)...) })
	return append(out, kindsOf(chain(impl.MaxDepth))...)
}

// dressedTrees returns trees of all small shapes in which boxes have all kinds, in several dresses, and trees at their limits.
func dressedTrees() [][]impl.Box {
	out := trees()
	add := func(plain []impl.Box) {
		for _, dress := range dresses() {
			tree := slices.Clone(plain)
			for i := range tree {
				dress(i, &tree[i])
			}
			out = append(out, tree)
		}
	}
	eachShape(4, func(parents []int) {
		for _, plain := range kindsOf(parents) {
			add(plain)
		}
	})
	for _, parents := range fullParents() {
		add(styled(parents))
	}
	return append(out, largestTrees()...)
}

// largestTrees returns trees of as many boxes as possible, which all need as much as possible.
func largestTrees() [][]impl.Box {
	var out [][]impl.Box
	for kind := impl.BoxBlock; kind <= impl.BoxColumn; kind++ {
		tree := styled(append(star(7), 7, 7, 7, 7, 7, 7, 7, 7))
		for i := range tree {
			tree[i].Pad, tree[i].Gap, tree[i].Grow, tree[i].Shrink = impl.MaxEdge, impl.MaxEdge, impl.MaxWeight, 0
			tree[i].W, tree[i].H, tree[i].Kind = impl.MaxLeaf, impl.MaxLeaf, impl.BoxLeaf
		}
		for _, at := range []int{0, 7} {
			tree[at].W, tree[at].H, tree[at].Kind = 0, 0, kind
		}
		out = append(out, tree)
	}
	return out
}

// eachDressedBox calls a function with each box of all dressed trees.
func eachDressedBox(call func(tree []impl.Box, at int)) {
	for _, tree := range dressedTrees() {
		for at := range tree {
			call(tree, at)
		}
	}
}

// eachLayout calls a function with all dressed trees and screens, and the rectangles of the boxes.
func eachLayout(t *testing.T, call func(tree []impl.Box, screen extent, rects []impl.Rect)) {
	t.Helper()
	for _, tree := range dressedTrees() {
		for _, screen := range screens {
			rects := impl.LayoutTree(tree, screen.w, screen.h)
			if len(rects) != len(tree) {
				t.Fatalf("LayoutTree(%v, %v) = %v", tree, screen, rects)
			}
			call(tree, screen, rects)
		}
	}
}

// eachShown calls a function with all dressed trees, some screens with and without room, and the rectangles of the boxes.
func eachShown(t *testing.T, call func(tree []impl.Box, screen extent, rects []impl.Rect)) {
	t.Helper()
	some := []extent{{0, 0}, {60, 41}, {100, 50}, {203, 350}}
	eachLayout(t, func(tree []impl.Box, screen extent, rects []impl.Rect) {
		if slices.Contains(some, screen) {
			call(tree, screen, rects)
		}
	})
}

// edgePoints returns points of rectangles at their edges, and points beside them, each once.
func edgePoints(rects []impl.Rect) [][2]int {
	var out [][2]int
	for _, r := range rects {
		right, bottom := r.X+r.W, r.Y+r.H
		out = append(out, [][2]int{
			{r.X, r.Y}, {right - 1, bottom - 1}, {right - 1, r.Y}, {r.X, bottom - 1}, {right, r.Y}, {r.X, bottom},
			{right, bottom - 1}, {right - 1, bottom}, {r.X - 1, r.Y}, {r.X, r.Y - 1}, {r.X + r.W/2, r.Y + r.H/2},
		}...)
	}
	slices.SortFunc(out, func(a, b [2]int) int { return slices.Compare(a[:], b[:]) })
	return slices.Compact(out)
}

// spillingTree returns a tree of which, on a screen of 60 to 40, a leaf spills downwards out of its block, and a row to the right out of the screen.
func spillingTree() []impl.Box {
	return []impl.Box{firstBox(impl.BoxRow, 5, 0, 0), box(0, impl.BoxBlock), leaf(1, 10, 40), box(0, impl.BoxRow), leaf(3, 30, 8), leaf(3, 30, 8)}
}

// needOf returns the size that a box of a tree needs, by the words of the specification.
func needOf(tree []impl.Box, at int) extent {
	b := tree[at]
	need := extent{b.W, b.H}
	for i, kid := range directlyIn(tree, at) {
		gap := b.Gap
		if i == 0 {
			gap = 0
		}
		inner := needOf(tree, kid)
		if b.Kind == impl.BoxRow {
			need = extent{need.w + gap + inner.w, max(need.h, inner.h)}
		} else {
			need = extent{max(need.w, inner.w), need.h + gap + inner.h}
		}
	}
	return extent{need.w + 2*b.Pad, need.h + 2*b.Pad}
}

// innerOf returns the inner rectangle of a box with a rectangle.
func innerOf(t *testing.T, b impl.Box, r impl.Rect) impl.Rect {
	t.Helper()
	inner, ok := impl.InsetRect(r, b.Pad)
	if !ok {
		t.Fatalf("InsetRect(%v, %d) fails", r, b.Pad)
	}
	return inner
}

// flexedIn returns where the boxes directly in a box begin and how large they are in a space, for the sizes that they need.
func flexedIn(tree []impl.Box, at int, space int, need func(kid int) int) ([]int, []int) {
	var list []impl.Flex
	room := space
	for i, kid := range directlyIn(tree, at) {
		list = append(list, flex(need(kid), 0, impl.MaxBox, tree[kid].Grow, tree[kid].Shrink))
		if i > 0 {
			room -= tree[at].Gap
		}
	}
	sizes := impl.FlexSizes(list, max(room, 0))
	return impl.OffsetsOf(sizes, space, tree[at].Gap, tree[at].Justify), sizes
}

// placeIn sets the rectangles of all boxes in a box with a rectangle, by the words of the specification.
func placeIn(t *testing.T, tree []impl.Box, at int, rects []impl.Rect) {
	t.Helper()
	inner := innerOf(t, tree[at], rects[at])
	high, wide := func(kid int) int { return needOf(tree, kid).h }, func(kid int) int { return needOf(tree, kid).w }
	top := inner.Y
	for i, kid := range directlyIn(tree, at) {
		switch tree[at].Kind {
		case impl.BoxBlock:
			rects[kid] = rect(inner.X, top, inner.W, high(kid))
			top += high(kid) + tree[at].Gap
		case impl.BoxRow:
			offsets, sizes := flexedIn(tree, at, inner.W, wide)
			rects[kid] = rect(inner.X+offsets[i], inner.Y, sizes[i], inner.H)
		case impl.BoxColumn:
			offsets, sizes := flexedIn(tree, at, inner.H, high)
			rects[kid] = rect(inner.X, inner.Y+offsets[i], inner.W, sizes[i])
		}
		placeIn(t, tree, kid, rects)
	}
}

// checkRects reports an error unless a list has exactly the wanted rectangles.
func checkRects(t *testing.T, what string, got []impl.Rect, want ...impl.Rect) {
	t.Helper()
	if !slices.Equal(got, want) {
		t.Errorf("%s = %v, want %v", what, got, want)
	}
}

// mustNeed returns the size that a box needs, and reports an error if there is none.
func mustNeed(t *testing.T, tree []impl.Box, at int) extent {
	t.Helper()
	w, h, ok := impl.NaturalSize(tree, at)
	if !ok {
		t.Fatalf("NaturalSize(%v, %d) fails", tree, at)
	}
	return extent{w, h}
}
