package tests

import (
	"fmt"
	"slices"
	"testing"

	"loop.example/flexlayout/impl"
)

// twice returns a list in which each number is there again, as far as there may be as many marks.
func twice(list []int) []int {
	return append(slices.Clone(list), list[:min(len(list), impl.MaxBoxes-len(list))]...)
}

// backwards returns a list in the other order.
func backwards(list []int) []int {
	out := slices.Clone(list)
	slices.Reverse(out)
	return out
}

// marksOf returns marks of boxes of a tree, each set of them ascending and in another order with equal ones: all sets for small trees, and some for large ones.
func marksOf(tree []impl.Box) [][]int {
	step := 1
	if len(tree) > 6 {
		step = 129
	}
	last := len(tree) - 1
	out := [][]int{slices.Repeat([]int{last}, impl.MaxBoxes), slices.Repeat([]int{0}, impl.MaxBoxes), boxesThat(tree, func(at int) bool { return true })}
	for set := 0; set < 1<<len(tree); set += step {
		marks := boxesThat(tree, func(at int) bool { return set>>(last-at)&1 == 1 })
		out = append(out, marks, backwards(twice(marks)))
	}
	return out
}

// eachMarks calls a function with all trees and marks of their boxes.
func eachMarks(call func(tree []impl.Box, marks []int)) {
	for _, tree := range trees() {
		for _, marks := range marksOf(tree) {
			call(tree, marks)
		}
	}
}

// pathTo returns a box and all boxes around it.
func pathTo(tree []impl.Box, at int) []int {
	return append([]int{at}, above(tree, at)...)
}

// anyOf reports whether one of some numbers is in a list.
func anyOf(numbers []int, list []int) bool {
	return slices.ContainsFunc(numbers, func(n int) bool { return slices.Contains(list, n) })
}

// boxesThat returns the numbers of the boxes of a tree for which a function reports true.
func boxesThat(tree []impl.Box, call func(at int) bool) []int {
	var out []int
	for at := range tree {
		if call(at) {
			out = append(out, at)
		}
	}
	return out
}

// rootsOf returns the marked boxes of a tree around which no other one is.
func rootsOf(tree []impl.Box, marks []int) []int {
	return boxesThat(tree, func(at int) bool {
		return slices.Contains(marks, at) && !anyOf(above(tree, at), marks)
	})
}

// mustClean returns the dirty roots that are left, and reports an error if there is no result.
func mustClean(t *testing.T, tree []impl.Box, marks []int, at int) []int {
	t.Helper()
	left, ok := impl.CleanBox(tree, marks, at)
	if !ok {
		t.Fatalf("CleanBox(%v, %v, %d) fails", tree, marks, at)
	}
	return left
}

func TestDirtyBoxesOfAllTrees(t *testing.T) {
	eachMarks(func(tree []impl.Box, marks []int) {
		what := fmt.Sprintf("(%v, %v)", tree, marks)
		dirty := boxesThat(tree, func(at int) bool { return anyOf(pathTo(tree, at), marks) })
		checkRow(t, "DirtyRoots"+what, impl.DirtyRoots(tree, marks), rootsOf(tree, marks)...)
		checkRow(t, "DirtyBoxes"+what, impl.DirtyBoxes(tree, marks), dirty...)
	})
}

func TestDirtyBoxesExamples(t *testing.T) {
	tree := styled([]int{-1, 0, 1, 1, 3, 0, 5, 0})
	for _, c := range []struct {
		marks, roots, boxes []int
		at                  int
		left                []int
	}{
		{nil, nil, nil, 1, nil},
		{[]int{4}, []int{4}, []int{4}, 4, nil},
		{[]int{4}, []int{4}, []int{4}, 1, nil},
		{[]int{4}, []int{4}, []int{4}, 2, []int{4}},
		{[]int{4, 4, 4}, []int{4}, []int{4}, 7, []int{4}},
		{[]int{3}, []int{3}, []int{3, 4}, 4, []int{3}},
		{[]int{4, 3, 1, 4}, []int{1}, []int{1, 2, 3, 4}, 3, []int{1}},
		{[]int{7, 6, 2, 4, 6}, []int{2, 4, 6, 7}, []int{2, 4, 6, 7}, 1, []int{6, 7}},
		{[]int{7, 5, 2, 4, 6}, []int{2, 4, 5, 7}, []int{2, 4, 5, 6, 7}, 5, []int{2, 4, 7}},
		{[]int{7, 5, 2, 4, 6}, []int{2, 4, 5, 7}, []int{2, 4, 5, 6, 7}, 6, []int{2, 4, 5, 7}},
		{[]int{7, 5, 2, 0, 4, 6}, []int{0}, []int{0, 1, 2, 3, 4, 5, 6, 7}, 1, []int{0}},
		{[]int{7, 5, 2, 0, 4, 6}, []int{0}, []int{0, 1, 2, 3, 4, 5, 6, 7}, 0, nil},
	} {
		what := fmt.Sprintf(" of %v", c.marks)
		checkRow(t, "DirtyRoots"+what, impl.DirtyRoots(tree, c.marks), c.roots...)
		checkRow(t, "DirtyBoxes"+what, impl.DirtyBoxes(tree, c.marks), c.boxes...)
		checkRow(t, fmt.Sprintf("CleanBox%s and %d", what, c.at), mustClean(t, tree, c.marks, c.at), c.left...)
	}
}

func TestLayoutRootExamples(t *testing.T) {
	block, row, column := impl.BoxBlock, impl.BoxRow, impl.BoxColumn
	for _, c := range []struct {
		what  string
		kinds []int
		want  []int
	}{
		{"blocks in blocks", []int{block, block, block, block}, []int{0, 0, 0, 0}},
		{"rows in rows", []int{row, row, row, row}, []int{0, 0, 1, 2}},
		{"a row in blocks", []int{block, block, row, block, block, block}, []int{0, 0, 0, 2, 2, 2}},
		{"a column in blocks", []int{block, column, block, block, block, block}, []int{0, 0, 1, 1, 1, 1}},
		{"blocks in a row in a column", []int{column, row, block, block, block, column}, []int{0, 0, 1, 1, 1, 1}},
		{"a leaf in blocks in a column", []int{column, block, block, impl.BoxLeaf}, []int{0, 0, 0, 0}},
		{"a leaf", []int{impl.BoxLeaf}, []int{0}},
	} {
		tree := make([]impl.Box, len(c.kinds))
		roots := make([]int, len(c.kinds))
		for at, kind := range c.kinds {
			tree[at] = box(at-1, kind)
		}
		for at := range tree {
			roots[at] = impl.LayoutRoot(tree, at)
		}
		checkRow(t, "all LayoutRoot of "+c.what, roots, c.want...)
	}
}

func TestDirtyBoxesOfWrongTrees(t *testing.T) {
	eachWrongBox(func(tree []impl.Box, at int) {
		what := fmt.Sprintf("(%v, %d)", tree, at)
		if n := impl.LayoutRoot(tree, at); n != -1 {
			t.Errorf("LayoutRoot%s = %d", what, n)
		}
		for _, marks := range [][]int{nil, {0}, {0, 0}} {
			if left, ok := impl.CleanBox(tree, marks, at); ok || left != nil {
				t.Errorf("CleanBox%s of %v = %v, %v", what, marks, left, ok)
			}
		}
		checkNil(t, "DirtyRoots"+what, impl.DirtyRoots(tree, []int{at}))
		checkNil(t, "DirtyBoxes"+what, impl.DirtyBoxes(tree, []int{at}))
	})
	for _, tree := range wrongTrees() {
		checkNil(t, fmt.Sprintf("DirtyRoots(%v, 0)", tree), impl.DirtyRoots(tree, []int{0}))
		checkNil(t, fmt.Sprintf("DirtyBoxes(%v, 0)", tree), impl.DirtyBoxes(tree, []int{0}))
	}
}

func TestDirtyBoxesOfWrongMarks(t *testing.T) {
	for _, tree := range trees() {
		for _, marks := range wrongLists(impl.MaxBoxes, len(tree)-1) {
			what := fmt.Sprintf("(%v, %v)", tree, marks)
			checkNil(t, "DirtyRoots"+what, impl.DirtyRoots(tree, marks))
			checkNil(t, "DirtyBoxes"+what, impl.DirtyBoxes(tree, marks))
			for at := range tree {
				if left, ok := impl.CleanBox(tree, marks, at); ok || left != nil {
					t.Errorf("CleanBox%s of %d = %v, %v", what, at, left, ok)
				}
			}
		}
	}
}

func TestDirtyBoxesChangeNothing(t *testing.T) {
	marks := []int{4, 3, 4, 2, 5}
	for _, tree := range trees() {
		if len(tree) < 6 {
			continue
		}
		given, copied := withSpare(tree), withSpare(tree)
		what := fmt.Sprintf(" of %v", tree)
		checkFresh(t, "DirtyRoots"+what, marks, func(marks []int) []int { return impl.DirtyRoots(given, marks) })
		checkFresh(t, "DirtyBoxes"+what, marks, func(marks []int) []int { return impl.DirtyBoxes(given, marks) })
		for at := range tree {
			checkFresh(t, "CleanBox"+what, marks, func(marks []int) []int { return mustClean(t, given, marks, at) })
			impl.LayoutRoot(given, at)
		}
		if all := len(tree) + 3; !slices.Equal(given[:all], copied[:all]) {
			t.Errorf("a tree is changed: %v, was %v", given[:all], copied[:all])
		}
	}
}

// P56
func TestDirtyRootsAreNotInEachOther(t *testing.T) {
	eachMarks(func(tree []impl.Box, marks []int) {
		roots := impl.DirtyRoots(tree, marks)
		what := fmt.Sprintf("DirtyRoots(%v, %v) = %v", tree, marks, roots)
		for i, a := range roots {
			for j, b := range roots {
				if i != j && impl.IsAround(tree, a, b) {
					t.Errorf("%s, with %d in %d", what, b, a)
				}
			}
			if !slices.Contains(marks, a) {
				t.Errorf("%s, with %d, which is not marked", what, a)
			}
		}
		for _, mark := range marks {
			in := 0
			for _, root := range roots {
				if impl.IsAround(tree, root, mark) {
					in++
				}
			}
			if in != 1 {
				t.Errorf("%s, with %d in %d of them", what, mark, in)
			}
		}
	})
}

// P57
func TestRootsAreTheirOwnRoots(t *testing.T) {
	eachMarks(func(tree []impl.Box, marks []int) {
		roots := impl.DirtyRoots(tree, marks)
		what := fmt.Sprintf("DirtyRoots(%v, %v)", tree, roots)
		checkRow(t, what, impl.DirtyRoots(tree, roots), roots...)
		checkRow(t, what+" backwards", impl.DirtyRoots(tree, backwards(roots)), roots...)
		if len(marks) < impl.MaxBoxes {
			first := append(slices.Clone(marks), 0)
			checkRow(t, fmt.Sprintf("DirtyRoots(%v, %v)", tree, first), impl.DirtyRoots(tree, first), 0)
		}
	})
}

// P58
func TestDirtyBoxesAreInDirtyRoots(t *testing.T) {
	eachMarks(func(tree []impl.Box, marks []int) {
		roots, boxes := impl.DirtyRoots(tree, marks), impl.DirtyBoxes(tree, marks)
		checkRow(t, fmt.Sprintf("DirtyBoxes(%v, %v)", tree, roots), impl.DirtyBoxes(tree, roots), boxes...)
		many := 0
		for _, root := range roots {
			many += impl.CountIn(tree, root)
		}
		if len(boxes) != many {
			t.Errorf("DirtyBoxes(%v, %v) = %v, want %d", tree, marks, boxes, many)
		}
	})
}

// P59
func TestBoxesAreDirtyIfBoxesAroundThemAre(t *testing.T) {
	eachMarks(func(tree []impl.Box, marks []int) {
		want := boxesThat(tree, func(at int) bool { return anyOf(impl.PathTo(tree, at), marks) })
		if boxes := impl.DirtyBoxes(tree, marks); !slices.Equal(boxes, want) {
			t.Errorf("DirtyBoxes(%v, %v) = %v, want %v", tree, marks, boxes, want)
		}
	})
}

// P60
func TestCleanBoxesAreNotDirty(t *testing.T) {
	eachMarks(func(tree []impl.Box, marks []int) {
		roots := impl.DirtyRoots(tree, marks)
		what := fmt.Sprintf("CleanBox(%v, %v)", tree, marks)
		for at := range tree {
			want := slices.Clone(roots)
			want = slices.DeleteFunc(want, func(root int) bool { return impl.IsAround(tree, at, root) })
			checkRow(t, fmt.Sprint(what, " of box ", at), mustClean(t, tree, marks, at), want...)
		}
		checkRow(t, what+" of the first box", mustClean(t, tree, marks, 0))
	})
}

// P61
func TestLayoutsBeginAtBoxesThatAreFlexible(t *testing.T) {
	for _, tree := range treesOfAllKinds() {
		for at := range tree {
			root, path := impl.LayoutRoot(tree, at), impl.PathTo(tree, at)
			depth := slices.Index(path, root)
			if depth < 0 || root == at && at > 0 {
				t.Fatalf("LayoutRoot(%v, %d) = %d, with the path %v", tree, at, root, path)
			}
			if kind := tree[root].Kind; root > 0 && kind != impl.BoxRow && kind != impl.BoxColumn {
				t.Errorf("LayoutRoot(%v, %d) = %d, which has the kind %d", tree, at, root, kind)
			}
			for _, between := range path[depth+1 : max(depth+1, len(path)-1)] {
				if tree[between].Kind != impl.BoxBlock {
					t.Errorf("LayoutRoot(%v, %d) = %d, with %d between", tree, at, root, between)
				}
			}
		}
	}
}

// checkKept counts the boxes with other boxes in them that keep their rectangle when a box gets another style, and reports an error if these do not keep theirs.
func checkKept(t *testing.T, tree []impl.Box, at int, was []impl.Rect, is []impl.Rect) int {
	t.Helper()
	many := 0
	for outer := range tree {
		kids := impl.KidsOf(tree, outer)
		if impl.IsAround(tree, outer, at) || was[outer] != is[outer] || len(kids) == 0 {
			continue
		}
		many++
		for _, kid := range kids {
			if was[kid] != is[kid] {
				t.Errorf("with another style of %d, %d of %v is not at %v, but at %v, in %d", at, kid, tree, was[kid], is[kid], outer)
			}
		}
	}
	return many
}

// P62
func TestBoxesInBoxesThatKeepTheirPlacesKeepTheirs(t *testing.T) {
	kept, moved := 0, 0
	eachBox(func(tree []impl.Box, at int) {
		for _, style := range extras() {
			out, ok := impl.StyleBox(tree, at, style)
			if !ok {
				continue
			}
			for _, screen := range []extent{{0, 0}, {100, 50}, {203, 350}, {1000, 700}} {
				was, is := impl.LayoutTree(tree, screen.w, screen.h), impl.LayoutTree(out, screen.w, screen.h)
				kept += checkKept(t, tree, at, was, is)
				if !slices.Equal(was, is) {
					moved++
				}
			}
		}
	})
	if kept == 0 || moved == 0 {
		t.Errorf("%d boxes are kept, and %d layouts change", kept, moved)
	}
}

// P155
func TestOneMarkedBoxIsOneRoot(t *testing.T) {
	eachBox(func(tree []impl.Box, at int) {
		what := fmt.Sprintf("DirtyRoots(%v)", tree)
		checkRow(t, fmt.Sprint(what, " of ", at), impl.DirtyRoots(tree, []int{at}), at)
		path := impl.PathTo(tree, at)
		if len(path) == 0 {
			t.Fatalf("PathTo(%v, %d) is empty", tree, at)
		}
		for _, around := range path {
			checkRow(t, fmt.Sprint(what, " of ", at, " and ", around), impl.DirtyRoots(tree, []int{at, around}), around)
			checkRow(t, fmt.Sprint(what, " of ", around, " and ", at), impl.DirtyRoots(tree, []int{around, at}), around)
		}
	})
}

// P156
func TestTheFirstBoxIsAroundAll(t *testing.T) {
	for _, tree := range trees() {
		all := boxesThat(tree, func(at int) bool { return true })
		checkRow(t, fmt.Sprintf("DirtyBoxes(%v, 0)", tree), impl.DirtyBoxes(tree, []int{0}), all...)
		checkRow(t, fmt.Sprintf("DirtyBoxes(%v, last and 0)", tree), impl.DirtyBoxes(tree, []int{len(tree) - 1, 0}), all...)
	}
}

// P157
func TestWhatIsCleanedPieceByPieceIsClean(t *testing.T) {
	eachMarks(func(tree []impl.Box, marks []int) {
		roots := impl.DirtyRoots(tree, marks)
		what := fmt.Sprintf("CleanBox of all of %v, marked as %v, one after the other", tree, marks)
		for _, order := range [][]int{roots, backwards(roots)} {
			left := marks
			for i, root := range order {
				left = mustClean(t, tree, left, root)
				want := slices.Sorted(slices.Values(order[i+1:]))
				checkRow(t, fmt.Sprint(what, ", behind ", root), left, want...)
			}
			checkRow(t, what, left)
		}
	})
}

// P158
func TestBoxesInRowsMoveWithThem(t *testing.T) {
	for _, tree := range treesOfAllKinds() {
		for at, b := range tree {
			want := 0
			switch {
			case at > 0 && tree[b.Parent].Kind == impl.BoxBlock:
				want = impl.LayoutRoot(tree, b.Parent)
			case at > 0:
				want = b.Parent
			}
			if n := impl.LayoutRoot(tree, at); n != want {
				t.Errorf("LayoutRoot(%v, %d) = %d, want %d", tree, at, n, want)
			}
		}
	}
}
