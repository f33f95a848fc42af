package tests

import (
	"fmt"
	"slices"
	"testing"

	"loop.example/flexlayout/impl"
)

func TestValidTreeOfGoodAndWrongTrees(t *testing.T) {
	for _, tree := range trees() {
		if !impl.ValidTree(tree) {
			t.Errorf("ValidTree(%v) = false", tree)
		}
	}
	for _, tree := range wrongTrees() {
		if impl.ValidTree(tree) {
			t.Errorf("ValidTree(%v) = true", tree)
		}
	}
}

func TestValidTreeLimitsOfBoxes(t *testing.T) {
	good, _ := looks()
	for _, b := range good {
		first := b
		first.Parent = -1
		for _, tree := range [][]impl.Box{{first}, {box(-1, impl.BoxColumn), b}, {box(-1, impl.BoxBlock), b, leaf(0, 1, 1)}} {
			if !impl.ValidTree(tree) {
				t.Errorf("ValidTree(%v) = false", tree)
			}
		}
	}
}

func TestValidTreeLimitsOfShapes(t *testing.T) {
	cases := []struct {
		what    string
		parents []int
		want    bool
	}{
		{"MaxDepth boxes around a box", chain(impl.MaxDepth), true},
		{"one box more around a box", chain(impl.MaxDepth + 1), false},
		{"MaxKids boxes in a box", star(impl.MaxKids), true},
		{"one box more in a box", star(impl.MaxKids + 1), false},
		{"MaxKids boxes in an inner box", []int{-1, 0, 1, 1, 1, 1, 1, 1, 1, 1, 0}, true},
		{"one box more in an inner box", []int{-1, 0, 1, 1, 1, 1, 1, 1, 1, 1, 1}, false},
		{"MaxBoxes boxes", append(star(7), 7, 7, 7, 7, 7, 7, 7, 7), true},
		{"one box more", append(star(7), 7, 7, 7, 7, 7, 7, 7, 7, 0), false},
		{"a box two levels out", []int{-1, 0, 1, 2, 0, 0}, true},
		{"a box in one that is closed", []int{-1, 0, 0, 1}, false},
	}
	for _, c := range cases {
		if got := impl.ValidTree(styled(c.parents)); got != c.want {
			t.Errorf("ValidTree of %s = %v", c.what, got)
		}
	}
	if len(append(star(7), 7, 7, 7, 7, 7, 7, 7, 7)) != impl.MaxBoxes {
		t.Error("the tree at the limit has another number of boxes")
	}
}

// isOrdered reports whether each box has as Parent the box before it, or one around that.
func isOrdered(tree []impl.Box) bool {
	for i := 1; i < len(tree); i++ {
		if tree[i].Parent != i-1 && !slices.Contains(above(tree, i-1), tree[i].Parent) {
			return false
		}
		if tree[tree[i].Parent].Kind == impl.BoxLeaf {
			return false
		}
	}
	return true
}

func TestValidTreeOfAllSmallLists(t *testing.T) {
	rows([]int{0, 1, 2, 3}, 4, func(row []int) {
		for leaves := range 1 << (len(row) + 1) {
			tree := []impl.Box{box(-1, impl.BoxRow)}
			before := true
			for i, p := range row {
				tree = append(tree, box(p, impl.BoxColumn))
				before = before && p <= i
			}
			for i := range tree {
				if leaves>>i&1 == 1 {
					tree[i].Kind = impl.BoxLeaf
				}
			}
			if want := before && isOrdered(tree); impl.ValidTree(tree) != want {
				t.Errorf("ValidTree(%v) = %v", tree, !want)
			}
		}
	})
}

func TestTreeFunctionsOfWrongArguments(t *testing.T) {
	eachWrongBox(func(tree []impl.Box, at int) {
		what := fmt.Sprintf("of box %d of %v", at, tree)
		checkNil(t, "KidsOf "+what, impl.KidsOf(tree, at))
		if n := impl.DepthOf(tree, at); n != -1 {
			t.Errorf("DepthOf %s = %d", what, n)
		}
		if n := impl.CountIn(tree, at); n != -1 {
			t.Errorf("CountIn %s = %d", what, n)
		}
		if impl.IsAround(tree, at, 0) || impl.IsAround(tree, 0, at) || impl.IsAround(tree, at, at) {
			t.Errorf("IsAround %s", what)
		}
	})
}

func TestTreeFunctionsChangeNothing(t *testing.T) {
	for _, tree := range trees() {
		given, copied := withSpare(tree), withSpare(tree)
		for at := range tree {
			first := impl.KidsOf(given, at)
			kept := slices.Clone(first)
			for i := range first[:cap(first)] {
				first[:cap(first)][i] = -77
			}
			checkRow(t, fmt.Sprintf("KidsOf(%v, %d) again", tree, at), impl.KidsOf(given, at), kept...)
			impl.DepthOf(given, at)
			impl.CountIn(given, at)
			impl.IsAround(given, 0, at)
		}
		impl.ValidTree(given)
		if all := len(tree) + 3; !slices.Equal(given[:all], copied[:all]) {
			t.Errorf("a tree is changed: %v, was %v", given[:all], copied[:all])
		}
	}
}

func TestTreeExample(t *testing.T) {
	tree := styled([]int{-1, 0, 1, 1, 3, 0, 5, 0})
	checkRow(t, "KidsOf the first box", impl.KidsOf(tree, 0), 1, 5, 7)
	checkRow(t, "KidsOf an inner box", impl.KidsOf(tree, 1), 2, 3)
	checkRow(t, "KidsOf a leaf", impl.KidsOf(tree, 7))
	depths, counts := []int{}, []int{}
	for at := range tree {
		depths, counts = append(depths, impl.DepthOf(tree, at)), append(counts, impl.CountIn(tree, at))
	}
	checkRow(t, "all DepthOf", depths, 0, 1, 2, 2, 3, 1, 2, 1)
	checkRow(t, "all CountIn", counts, 8, 4, 1, 2, 1, 2, 1, 1)
	for _, c := range []struct {
		at, inner int
		want      bool
	}{{0, 0, true}, {0, 4, true}, {1, 4, true}, {3, 4, true}, {2, 4, false}, {4, 3, false}, {1, 5, false}, {5, 7, false}, {7, 7, true}, {7, 0, false}} {
		if got := impl.IsAround(tree, c.at, c.inner); got != c.want {
			t.Errorf("IsAround %d, %d = %v", c.at, c.inner, got)
		}
	}
}

// P21
func TestTreesWithoutTheLastBoxAreValid(t *testing.T) {
	for _, tree := range trees() {
		for many := len(tree); many > 0; many-- {
			if !impl.ValidTree(tree[:many]) {
				t.Errorf("ValidTree(%v) = false", tree[:many])
			}
		}
		if impl.ValidTree(tree[:0]) {
			t.Error("ValidTree of no boxes")
		}
	}
}

// P22
func TestKidsHaveTheirParent(t *testing.T) {
	eachBox(func(tree []impl.Box, at int) {
		checkRow(t, fmt.Sprintf("KidsOf(%v, %d)", tree, at), impl.KidsOf(tree, at), directlyIn(tree, at)...)
	})
}

// P23
func TestInnerBoxesAreDeeper(t *testing.T) {
	eachBox(func(tree []impl.Box, at int) {
		want := 0
		if at > 0 {
			want = impl.DepthOf(tree, tree[at].Parent) + 1
		}
		if n := impl.DepthOf(tree, at); n != want || n != len(above(tree, at)) || n > impl.MaxDepth {
			t.Errorf("DepthOf(%v, %d) = %d, want %d", tree, at, n, want)
		}
	})
	if n := impl.DepthOf(styled(chain(impl.MaxDepth)), impl.MaxDepth); n != impl.MaxDepth {
		t.Errorf("DepthOf the deepest box = %d", n)
	}
}

// P24
func TestBoxesAreAroundWhatTheyHaveInThem(t *testing.T) {
	eachBox(func(tree []impl.Box, inner int) {
		around := append(above(tree, inner), inner)
		for at := range tree {
			if got := impl.IsAround(tree, at, inner); got != slices.Contains(around, at) {
				t.Errorf("IsAround(%v, %d, %d) = %v", tree, at, inner, got)
			}
		}
	})
}

// P25
func TestBoxesAreNotAroundEachOther(t *testing.T) {
	eachBox(func(tree []impl.Box, a int) {
		for b := range tree {
			if both := impl.IsAround(tree, a, b) && impl.IsAround(tree, b, a); both != (a == b) {
				t.Errorf("IsAround(%v) of %d and %d in both orders = %v", tree, a, b, both)
			}
		}
	})
}

// P26
func TestBoxesAreCounted(t *testing.T) {
	eachBox(func(tree []impl.Box, at int) {
		want := 1
		for _, kid := range directlyIn(tree, at) {
			want += impl.CountIn(tree, kid)
		}
		if at == 0 {
			want = len(tree)
		}
		if n := impl.CountIn(tree, at); n != want {
			t.Errorf("CountIn(%v, %d) = %d, want %d", tree, at, n, want)
		}
	})
}

// P27
func TestBoxesInABoxFollowIt(t *testing.T) {
	eachBox(func(tree []impl.Box, at int) {
		end := at + impl.CountIn(tree, at)
		if end <= at || end > len(tree) {
			t.Errorf("CountIn(%v, %d) = %d", tree, at, end-at)
		}
		for inner := range tree {
			if got := impl.IsAround(tree, at, inner); got != (inner >= at && inner < end) {
				t.Errorf("IsAround(%v, %d, %d) = %v, with %d boxes", tree, at, inner, got, end-at)
			}
		}
	})
}

// P137
func TestBoxesInABoxAreOneDeeper(t *testing.T) {
	eachBox(func(tree []impl.Box, at int) {
		kids := impl.KidsOf(tree, at)
		for _, kid := range kids {
			if n := impl.DepthOf(tree, kid); n != impl.DepthOf(tree, at)+1 {
				t.Errorf("DepthOf(%v, %d) = %d, in box %d", tree, kid, n, at)
			}
		}
		if tree[at].Kind == impl.BoxLeaf && len(kids) != 0 {
			t.Errorf("KidsOf(%v, %d) = %v, of a leaf", tree, at, kids)
		}
	})
}

// P138
func TestBoxesBeginWithTheirFirstBoxes(t *testing.T) {
	eachBox(func(tree []impl.Box, at int) {
		next := at + 1
		for _, kid := range impl.KidsOf(tree, at) {
			if kid != next {
				t.Errorf("KidsOf(%v, %d) has %d, want %d", tree, at, kid, next)
			}
			next = kid + impl.CountIn(tree, kid)
		}
		if next != at+impl.CountIn(tree, at) {
			t.Errorf("KidsOf(%v, %d) ends at %d", tree, at, next)
		}
	})
}

// P139
func TestDepthsAreLengthsOfPaths(t *testing.T) {
	eachBox(func(tree []impl.Box, at int) {
		if path := impl.PathTo(tree, at); impl.DepthOf(tree, at) != len(path)-1 {
			t.Errorf("DepthOf(%v, %d) = %d, with the path %v", tree, at, impl.DepthOf(tree, at), path)
		}
	})
}
