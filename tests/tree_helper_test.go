package tests

import (
	"math"
	"slices"
	"testing"

	"loop.example/flexlayout/impl"
)

// leaf returns a leaf with a size.
func leaf(parent int, w int, h int) impl.Box {
	return impl.Box{Parent: parent, W: w, H: h}
}

// box returns a box of a kind.
func box(parent int, kind int) impl.Box {
	return impl.Box{Parent: parent, Kind: kind}
}

// above returns the numbers of the boxes around a box, from the innermost one on, by their Parent alone.
func above(tree []impl.Box, at int) []int {
	var out []int
	for p := tree[at].Parent; p >= 0; p = tree[p].Parent {
		out = append(out, p)
	}
	return out
}

// directlyIn returns the numbers of the boxes with a Parent.
func directlyIn(tree []impl.Box, at int) []int {
	var out []int
	for i, b := range tree {
		if b.Parent == at {
			out = append(out, i)
		}
	}
	return out
}

// eachShape calls a function with the parents of all trees of 1 to a greatest number of boxes, of any depth.
func eachShape(greatest int, call func(parents []int)) {
	var grow func(parents []int)
	grow = func(parents []int) {
		call(parents)
		if len(parents) == greatest {
			return
		}
		for p := len(parents) - 1; p >= 0; p = parents[p] {
			grow(append(slices.Clone(parents), p))
		}
	}
	grow([]int{-1})
}

// styled returns a tree with these parents, in which each box looks different; the boxes without boxes are leaves, but some.
func styled(parents []int) []impl.Box {
	tree := make([]impl.Box, len(parents))
	for i, p := range parents {
		tree[i] = impl.Box{Parent: p, Pad: i, Gap: 2 * i % 50, Grow: i % 11, Shrink: i * 3 % 11, Justify: i % 4}
		if slices.Contains(parents, i) || i%5 == 4 {
			tree[i].Kind = impl.BoxBlock + i%3
		} else {
			tree[i].W, tree[i].H = 10+i, 20+2*i
		}
	}
	return tree
}

// chain returns the parents of boxes each of which is in the one before.
func chain(depth int) []int {
	parents := make([]int, depth+1)
	for i := range parents {
		parents[i] = i - 1
	}
	return parents
}

// star returns the parents of boxes that are all directly in the first one.
func star(kids int) []int {
	return append([]int{-1}, make([]int, kids)...)
}

// fullParents are the parents of trees at their limits.
func fullParents() [][]int {
	return [][]int{
		chain(impl.MaxDepth), star(impl.MaxKids), star(impl.MaxKids - 1),
		append(chain(impl.MaxDepth), 4, 4, 3, 2, 1, 0, 0, 0, 0, 0),
		{-1, 0, 1, 1, 1, 1, 1, 1, 1, 1, 0, 10, 10, 12, 13, 0},
		{-1, 0, 0, 0, 0, 0, 0, 0, 0, 8, 8, 8, 8, 8, 8, 8},
		{-1, 0, 1, 1, 0, 4, 4, 0, 7, 7, 0, 10, 11, 12, 13, 0},
		{-1, 0, 1, 2, 3, 3, 3, 3, 3, 3, 3, 3, 1, 12, 13, 14},
	}
}

// trees returns valid trees: all shapes of up to 6 boxes, and trees at their limits.
func trees() [][]impl.Box {
	var out [][]impl.Box
	eachShape(6, func(parents []int) { out = append(out, styled(parents)) })
	for _, parents := range fullParents() {
		out = append(out, styled(parents))
	}
	return out
}

// eachBox calls a function with each box of all trees.
func eachBox(call func(tree []impl.Box, at int)) {
	for _, tree := range trees() {
		for at := range tree {
			call(tree, at)
		}
	}
}

// looks returns boxes with a number of an ordinary leaf or of a row changed, first those that are valid, then those that are not.
func looks() ([]impl.Box, []impl.Box) {
	var good, bad []impl.Box
	try := func(b impl.Box, greatest int, set func(b *impl.Box, n int)) {
		for _, n := range append([]int{-1, 0, greatest, greatest + 1}, farNumbers...) {
			changed := b
			set(&changed, n)
			if n == 0 || n == greatest {
				good = append(good, changed)
			} else {
				bad = append(bad, changed)
			}
		}
	}
	plain, row := leaf(0, 7, 8), box(0, impl.BoxRow)
	for _, b := range []impl.Box{plain, row} {
		try(b, impl.MaxEdge, func(b *impl.Box, n int) { b.Pad = n })
		try(b, impl.MaxEdge, func(b *impl.Box, n int) { b.Gap = n })
		try(b, impl.MaxWeight, func(b *impl.Box, n int) { b.Grow = n })
		try(b, impl.MaxWeight, func(b *impl.Box, n int) { b.Shrink = n })
		try(b, impl.JustifyBetween, func(b *impl.Box, n int) { b.Justify = n })
	}
	try(plain, impl.MaxLeaf, func(b *impl.Box, n int) { b.W = n })
	try(plain, impl.MaxLeaf, func(b *impl.Box, n int) { b.H = n })
	for kind := impl.BoxBlock; kind <= impl.BoxColumn; kind++ {
		try(box(0, kind), 0, func(b *impl.Box, n int) { b.W = n })
		try(box(0, kind), 0, func(b *impl.Box, n int) { b.H = n })
	}
	try(box(0, 0), impl.BoxColumn, func(b *impl.Box, n int) { b.Kind = n })
	return good, bad
}

// wrongTrees returns trees that are not valid.
func wrongTrees() [][]impl.Box {
	out := [][]impl.Box{
		nil, {}, {leaf(0, 1, 1)}, {leaf(1, 1, 1)}, {leaf(-2, 1, 1)}, {box(0, impl.BoxRow), leaf(0, 1, 1)},
		{box(-1, impl.BoxRow), leaf(-1, 1, 1)}, {box(-1, impl.BoxRow), leaf(1, 1, 1)}, {box(-1, impl.BoxRow), box(2, impl.BoxRow), leaf(0, 1, 1)},
		{leaf(-1, 1, 1), leaf(0, 1, 1)}, {box(-1, impl.BoxRow), leaf(0, 1, 1), leaf(1, 1, 1)},
		styled([]int{-1, 0, 0, 1}), styled([]int{-1, 0, 1, 0, 2}), styled([]int{-1, 0, 1, 0, 1}), styled([]int{-1, 0, 1, 2, 1, 3}),
		styled(chain(impl.MaxDepth + 1)), styled(append(chain(impl.MaxDepth+1), 0)), styled(star(impl.MaxKids + 1)),
		styled([]int{-1, 0, 1, 1, 1, 1, 1, 1, 1, 1, 1}), styled(append(star(impl.MaxKids), 8, 8, 0)),
		styled(append(slices.Clone(fullParents()[3]), 0)), styled(append(slices.Clone(fullParents()[4]), 15)),
	}
	for _, n := range farNumbers {
		out = append(out, []impl.Box{leaf(n, 1, 1)}, []impl.Box{box(-1, impl.BoxRow), leaf(n, 1, 1)})
	}
	_, bad := looks()
	for _, b := range bad {
		first := b
		first.Parent = -1
		out = append(out, []impl.Box{first}, []impl.Box{box(-1, impl.BoxRow), b}, []impl.Box{box(-1, impl.BoxRow), b, leaf(0, 1, 1)})
	}
	return out
}

// noBoxes returns numbers that no box of a tree has.
func noBoxes(tree []impl.Box) []int {
	return append([]int{-1, -2, len(tree), len(tree) + 1, -len(tree), impl.MaxBoxes, math.MinInt32}, farNumbers...)
}

// eachWrongBox calls a function with trees that are not valid, and with numbers that no box of a valid tree has.
func eachWrongBox(call func(tree []impl.Box, at int)) {
	for _, tree := range wrongTrees() {
		for at := -1; at <= len(tree); at++ {
			call(tree, at)
		}
	}
	for _, tree := range trees() {
		for _, at := range noBoxes(tree) {
			call(tree, at)
		}
	}
}

// checkTree reports an error unless a result is the wanted tree and true.
func checkTree(t *testing.T, what string, got []impl.Box, ok bool, want []impl.Box) {
	t.Helper()
	if !ok || !slices.Equal(got, want) {
		t.Errorf("%s = %v, %v, want %v, true", what, got, ok, want)
	}
}

// checkNoTree reports an error unless a result is nil and false.
func checkNoTree(t *testing.T, what string, got []impl.Box, ok bool) {
	t.Helper()
	if ok || got != nil {
		t.Errorf("%s = %v, %v, want nil, false", what, got, ok)
	}
}

// withSpare returns a copy of a tree that has spare capacity, which is filled.
func withSpare(tree []impl.Box) []impl.Box {
	return append(slices.Clone(tree), leaf(91, 1, 1), leaf(92, 2, 2), leaf(93, 3, 3))[:len(tree)]
}

// checkFreshTree reports an error if a call changes its argument, shares memory with it, or remembers its result.
func checkFreshTree(t *testing.T, what string, tree []impl.Box, call func(tree []impl.Box) []impl.Box) {
	t.Helper()
	checkFreshList(t, what, tree, leaf(91, 1, 1), leaf(-77, -77, -77), call)
}
