package tests

import (
	"fmt"
	"slices"
	"testing"

	"loop.example/flexlayout/impl"
)

// nest is a box with the boxes directly in it; its Parent has no meaning.
type nest struct {
	style impl.Box
	kids  []*nest
}

// nestOf returns a box of a tree with all boxes in it.
func nestOf(tree []impl.Box, at int) *nest {
	n := &nest{style: tree[at]}
	for _, kid := range directlyIn(tree, at) {
		n.kids = append(n.kids, nestOf(tree, kid))
	}
	return n
}

// flat returns the boxes of a nest in the order of a tree.
func (n *nest) flat(parent int, tree []impl.Box) []impl.Box {
	at := len(tree)
	style := n.style
	style.Parent = parent
	tree = append(tree, style)
	for _, kid := range n.kids {
		tree = kid.flat(at, tree)
	}
	return tree
}

// edited returns a tree in which a function has changed the box with a number.
func edited(tree []impl.Box, at int, change func(n *nest)) []impl.Box {
	path := append(above(tree, at), at)
	slices.Sort(path)
	whole := nestOf(tree, 0)
	n := whole
	for _, next := range path[1:] {
		n = n.kids[slices.Index(directlyIn(tree, tree[next].Parent), next)]
	}
	change(n)
	return whole.flat(-1, nil)
}

// removed returns a tree without a box.
func removed(tree []impl.Box, at int) []impl.Box {
	return edited(tree, tree[at].Parent, func(n *nest) {
		place := slices.Index(directlyIn(tree, tree[at].Parent), at)
		n.kids = slices.Delete(n.kids, place, place+1)
	})
}

// withBox returns a tree with a box more.
func withBox(tree []impl.Box, at int, b impl.Box) []impl.Box {
	return edited(tree, at, func(n *nest) { n.kids = append(n.kids, &nest{style: b}) })
}

// restyled returns a tree in which a box has another style.
func restyled(tree []impl.Box, at int, b impl.Box) []impl.Box {
	return edited(tree, at, func(n *nest) { n.style = b })
}

// takesBox reports whether a box can be added to a box of a tree.
func takesBox(tree []impl.Box, at int) bool {
	return tree[at].Kind != impl.BoxLeaf && len(directlyIn(tree, at)) < impl.MaxKids &&
		len(above(tree, at)) < impl.MaxDepth && len(tree) < impl.MaxBoxes
}

// extras are boxes that are added, and styles; their Parent must not matter.
func extras() []impl.Box {
	return []impl.Box{
		leaf(0, 0, 0), leaf(-1, 100, 100), leaf(99, 3, 4), box(-99, impl.BoxBlock), box(2, impl.BoxColumn),
		{Parent: 1, Kind: impl.BoxRow, Pad: 50, Gap: 49, Grow: 10, Shrink: 9, Justify: impl.JustifyBetween},
	}
}

// mustTree returns a result, and reports an error if it is no valid tree.
func mustTree(t *testing.T, what string, tree []impl.Box, ok bool) []impl.Box {
	t.Helper()
	if !ok || !impl.ValidTree(tree) {
		t.Fatalf("%s = %v, %v", what, tree, ok)
	}
	return tree
}

func TestAddBoxOfAllTrees(t *testing.T) {
	eachBox(func(tree []impl.Box, at int) {
		for _, b := range extras() {
			what := fmt.Sprintf("AddBox(%v, %d, %v)", tree, at, b)
			out, ok := impl.AddBox(tree, at, b)
			if takesBox(tree, at) {
				checkTree(t, what, out, ok, withBox(tree, at, b))
			} else {
				checkNoTree(t, what, out, ok)
			}
		}
	})
}

func TestAddBoxRenumbers(t *testing.T) {
	tree := styled([]int{-1, 0, 1, 2, 0, 4, 5, 4})
	parents := func(list []impl.Box) []int {
		var out []int
		for _, b := range list {
			out = append(out, b.Parent)
		}
		return out
	}
	for _, c := range []struct {
		at   int
		want []int
	}{
		{0, []int{-1, 0, 1, 2, 0, 4, 5, 4, 0}}, {1, []int{-1, 0, 1, 2, 1, 0, 5, 6, 5}}, {2, []int{-1, 0, 1, 2, 2, 0, 5, 6, 5}},
		{4, []int{-1, 0, 1, 2, 0, 4, 5, 4, 4}}, {5, []int{-1, 0, 1, 2, 0, 4, 5, 5, 4}},
	} {
		out, ok := impl.AddBox(tree, c.at, leaf(0, 1, 1))
		checkRow(t, fmt.Sprintf("parents behind AddBox at %d, %v", c.at, ok), parents(out), c.want...)
	}
	for _, c := range []struct {
		at   int
		want []int
	}{{1, []int{-1, 0, 1, 2, 1}}, {2, []int{-1, 0, 0, 2, 3, 2}}, {3, []int{-1, 0, 1, 0, 3, 4, 3}}, {4, []int{-1, 0, 1, 2}}, {6, []int{-1, 0, 1, 2, 0, 4, 4}}} {
		out, ok := impl.RemoveBox(tree, c.at)
		checkRow(t, fmt.Sprintf("parents behind RemoveBox at %d, %v", c.at, ok), parents(out), c.want...)
	}
	out, ok := impl.PartOf(tree, 4)
	checkRow(t, fmt.Sprintf("parents of PartOf, %v", ok), parents(out), -1, 0, 1, 0)
}

func TestAddBoxOfWrongBoxes(t *testing.T) {
	good, bad := looks()
	tree := styled([]int{-1, 0, 1, 0})
	for at := range 2 {
		for _, b := range good {
			out, ok := impl.AddBox(tree, at, b)
			checkTree(t, fmt.Sprintf("AddBox %d, %v", at, b), out, ok, withBox(tree, at, b))
		}
		for _, b := range bad {
			out, ok := impl.AddBox(tree, at, b)
			checkNoTree(t, fmt.Sprintf("AddBox %d, %v", at, b), out, ok)
		}
	}
}

func TestAddBoxLimits(t *testing.T) {
	full := styled(fullParents()[3])
	out, ok := impl.AddBox(full[:impl.MaxBoxes-1], 0, leaf(0, 1, 1))
	checkTree(t, "AddBox of the last box", out, ok, append(slices.Clone(full[:impl.MaxBoxes-1]), leaf(0, 1, 1)))
	out, ok = impl.AddBox(out, 0, leaf(0, 1, 1))
	checkNoTree(t, "AddBox of one box more", out, ok)
	deep := styled(chain(impl.MaxDepth))
	deep[impl.MaxDepth] = box(impl.MaxDepth-1, impl.BoxRow)
	out, ok = impl.AddBox(deep, impl.MaxDepth-1, leaf(0, 1, 1))
	checkTree(t, "AddBox at the greatest depth", out, ok, append(slices.Clone(deep), leaf(impl.MaxDepth-1, 1, 1)))
	out, ok = impl.AddBox(deep, impl.MaxDepth, leaf(0, 1, 1))
	checkNoTree(t, "AddBox one deeper", out, ok)
}

func TestEditsOfWrongArguments(t *testing.T) {
	eachWrongBox(func(tree []impl.Box, at int) {
		what := fmt.Sprintf(" of box %d of %v", at, tree)
		for _, b := range extras() {
			out, ok := impl.AddBox(tree, at, b)
			checkNoTree(t, "AddBox"+what, out, ok)
			out, ok = impl.StyleBox(tree, at, b)
			checkNoTree(t, "StyleBox"+what, out, ok)
		}
		out, ok := impl.RemoveBox(tree, at)
		checkNoTree(t, "RemoveBox"+what, out, ok)
		out, ok = impl.PartOf(tree, at)
		checkNoTree(t, "PartOf"+what, out, ok)
	})
	for _, tree := range trees() {
		out, ok := impl.RemoveBox(tree, 0)
		checkNoTree(t, fmt.Sprintf("RemoveBox(%v, 0)", tree), out, ok)
	}
}

func TestEditsDoNotMendWrongTrees(t *testing.T) {
	wrong := []impl.Box{box(-1, impl.BoxRow), leaf(0, impl.MaxLeaf+1, 1)}
	out, ok := impl.StyleBox(wrong, 1, leaf(0, 1, 1))
	checkNoTree(t, "StyleBox of the wrong box", out, ok)
	out, ok = impl.RemoveBox(wrong, 1)
	checkNoTree(t, "RemoveBox of the wrong box", out, ok)
	out, ok = impl.PartOf(append(wrong, leaf(0, 1, 1)), 2)
	checkNoTree(t, "PartOf beside the wrong box", out, ok)
}

func TestRemoveBoxOfAllTrees(t *testing.T) {
	eachBox(func(tree []impl.Box, at int) {
		if at > 0 {
			out, ok := impl.RemoveBox(tree, at)
			checkTree(t, fmt.Sprintf("RemoveBox(%v, %d)", tree, at), out, ok, removed(tree, at))
		}
	})
}

func TestPartOfAllTrees(t *testing.T) {
	eachBox(func(tree []impl.Box, at int) {
		out, ok := impl.PartOf(tree, at)
		checkTree(t, fmt.Sprintf("PartOf(%v, %d)", tree, at), out, ok, nestOf(tree, at).flat(-1, nil))
	})
}

func TestStyleBoxOfAllTrees(t *testing.T) {
	eachBox(func(tree []impl.Box, at int) {
		for _, b := range extras() {
			what := fmt.Sprintf("StyleBox(%v, %d, %v)", tree, at, b)
			out, ok := impl.StyleBox(tree, at, b)
			if b.Kind == impl.BoxLeaf && len(directlyIn(tree, at)) > 0 {
				checkNoTree(t, what, out, ok)
			} else {
				checkTree(t, what, out, ok, restyled(tree, at, b))
			}
		}
	})
}

func TestStyleBoxOfWrongBoxes(t *testing.T) {
	good, bad := looks()
	tree := styled([]int{-1, 0, 1, 0})
	for _, b := range good {
		out, ok := impl.StyleBox(tree, 2, b)
		checkTree(t, fmt.Sprintf("StyleBox 2, %v", b), out, ok, restyled(tree, 2, b))
	}
	for at := range tree {
		for _, b := range bad {
			out, ok := impl.StyleBox(tree, at, b)
			checkNoTree(t, fmt.Sprintf("StyleBox %d, %v", at, b), out, ok)
		}
	}
}

func TestEditsChangeNothing(t *testing.T) {
	eachBox(func(tree []impl.Box, at int) {
		for _, b := range extras() {
			checkFreshTree(t, "AddBox", tree, func(tree []impl.Box) []impl.Box { out, _ := impl.AddBox(tree, at, b); return out })
			checkFreshTree(t, "StyleBox", tree, func(tree []impl.Box) []impl.Box { out, _ := impl.StyleBox(tree, at, b); return out })
		}
		checkFreshTree(t, "RemoveBox", tree, func(tree []impl.Box) []impl.Box { out, _ := impl.RemoveBox(tree, at); return out })
		checkFreshTree(t, "PartOf", tree, func(tree []impl.Box) []impl.Box { out, _ := impl.PartOf(tree, at); return out })
	})
}

// P28
func TestAddedBoxesAreLast(t *testing.T) {
	eachBox(func(tree []impl.Box, at int) {
		if !takesBox(tree, at) {
			return
		}
		for _, b := range extras() {
			what := fmt.Sprintf("AddBox(%v, %d, %v)", tree, at, b)
			out, ok := impl.AddBox(tree, at, b)
			mustTree(t, what, out, ok)
			kids := impl.KidsOf(out, at)
			last := kids[len(kids)-1]
			if len(kids) != len(impl.KidsOf(tree, at))+1 || last != at+impl.CountIn(tree, at) {
				t.Errorf("%s has the boxes %v", what, kids)
			}
			got := out[last]
			got.Parent = b.Parent
			if got != b {
				t.Errorf("%s has %v as the last box", what, out[last])
			}
			back, ok := impl.RemoveBox(out, last)
			checkTree(t, what+", RemoveBox", back, ok, tree)
		}
	})
}

// P29
func TestAddedBoxesCount(t *testing.T) {
	eachBox(func(tree []impl.Box, at int) {
		if !takesBox(tree, at) {
			return
		}
		path := impl.PathTo(tree, at)
		if !slices.Contains(path, at) {
			t.Fatalf("PathTo(%v, %d) = %v", tree, at, path)
		}
		for _, b := range extras() {
			what := fmt.Sprintf("AddBox(%v, %d, %v)", tree, at, b)
			out, ok := impl.AddBox(tree, at, b)
			mustTree(t, what, out, ok)
			place := at + impl.CountIn(tree, at)
			for i := range tree {
				// All boxes from the place of the new one on are one later.
				is, want := i, impl.CountIn(tree, i)
				if i >= place {
					is++
				}
				if slices.Contains(path, i) {
					want++
				}
				if n := impl.CountIn(out, is); n != want {
					t.Errorf("%s has CountIn %d for box %d, want %d", what, n, is, want)
				}
			}
		}
	})
}

// P30
func TestRemovedBoxesAreGone(t *testing.T) {
	eachBox(func(tree []impl.Box, at int) {
		if at == 0 {
			return
		}
		what := fmt.Sprintf("RemoveBox(%v, %d)", tree, at)
		out, ok := impl.RemoveBox(tree, at)
		mustTree(t, what, out, ok)
		many := impl.CountIn(tree, at)
		if len(out) != len(tree)-many || !slices.Equal(out[:at], tree[:at]) {
			t.Fatalf("%s = %v", what, out)
		}
		for i, b := range out[at:] {
			old := tree[at+many+i]
			if old.Parent >= at {
				old.Parent -= many
			}
			if b != old {
				t.Errorf("%s has %v at %d, want %v", what, b, at+i, old)
			}
		}
	})
}

// P31
func TestPartsAreTrees(t *testing.T) {
	eachBox(func(tree []impl.Box, at int) {
		what := fmt.Sprintf("PartOf(%v, %d)", tree, at)
		out, ok := impl.PartOf(tree, at)
		mustTree(t, what, out, ok)
		if len(out) != impl.CountIn(tree, at) {
			t.Errorf("%s = %v", what, out)
		}
		if at == 0 {
			checkTree(t, what, out, ok, tree)
		}
		for i, b := range out {
			got := tree[at+i]
			got.Parent = b.Parent
			if b != got || i > 0 && b.Parent != tree[at+i].Parent-at {
				t.Errorf("%s has %v at %d, was %v", what, b, i, tree[at+i])
			}
		}
	})
}

// P33
func TestStylesChangeOneBox(t *testing.T) {
	eachBox(func(tree []impl.Box, at int) {
		for _, b := range extras() {
			out, ok := impl.StyleBox(tree, at, b)
			if !ok {
				continue
			}
			what := fmt.Sprintf("StyleBox(%v, %d, %v)", tree, at, b)
			mustTree(t, what, out, ok)
			want := slices.Clone(tree)
			want[at] = b
			want[at].Parent = tree[at].Parent
			checkTree(t, what, out, ok, want)
			back, ok := impl.StyleBox(out, at, tree[at])
			checkTree(t, what+", StyleBox", back, ok, tree)
		}
	})
}

// P141
func TestLeavesHaveNoBoxes(t *testing.T) {
	eachBox(func(tree []impl.Box, at int) {
		full := len(directlyIn(tree, at)) == impl.MaxKids
		if tree[at].Kind == impl.BoxLeaf || full {
			for _, b := range extras() {
				out, ok := impl.AddBox(tree, at, b)
				checkNoTree(t, fmt.Sprintf("AddBox(%v, %d, %v)", tree, at, b), out, ok)
			}
		}
	})
	for kind := impl.BoxBlock; kind <= impl.BoxColumn; kind++ {
		tree := []impl.Box{box(-1, kind)}
		for range impl.MaxKids {
			out, ok := impl.AddBox(tree, 0, leaf(0, 1, 1))
			tree = mustTree(t, fmt.Sprintf("AddBox in %v", tree), out, ok)
		}
		out, ok := impl.AddBox(tree, 0, leaf(0, 1, 1))
		checkNoTree(t, fmt.Sprintf("AddBox in %v", tree), out, ok)
		out, ok = impl.AddBox(tree, impl.MaxKids, leaf(0, 1, 1))
		checkNoTree(t, "AddBox in a leaf beside others", out, ok)
	}
}

// P142
func TestTheOrderOfRemovingDoesNotMatter(t *testing.T) {
	eachBox(func(tree []impl.Box, at int) {
		kids := impl.KidsOf(tree, at)
		for i, a := range kids {
			for _, b := range kids[i+1:] {
				what := fmt.Sprintf("RemoveBox(%v) of %d and %d", tree, a, b)
				first, ok := impl.RemoveBox(tree, b)
				first, ok = impl.RemoveBox(mustTree(t, what, first, ok), a)
				mustTree(t, what, first, ok)
				second, ok := impl.RemoveBox(tree, a)
				second, ok = impl.RemoveBox(mustTree(t, what, second, ok), b-impl.CountIn(tree, a))
				checkTree(t, what, second, ok, first)
				checkTree(t, what, second, ok, removed(removed(tree, b), a))
			}
		}
	})
}

// P143
func TestPartsOfPartsAreParts(t *testing.T) {
	eachBox(func(tree []impl.Box, at int) {
		part, ok := impl.PartOf(tree, at)
		mustTree(t, fmt.Sprintf("PartOf(%v, %d)", tree, at), part, ok)
		for i := range part {
			want, ok := impl.PartOf(tree, at+i)
			mustTree(t, fmt.Sprintf("PartOf(%v, %d)", tree, at+i), want, ok)
			got, ok := impl.PartOf(part, i)
			checkTree(t, fmt.Sprintf("PartOf(%v, %d)", part, i), got, ok, want)
		}
	})
}

// P144
func TestTheOwnStyleChangesNothing(t *testing.T) {
	eachBox(func(tree []impl.Box, at int) {
		for _, parent := range []int{tree[at].Parent, -1, 0, at, 99, -99} {
			style := tree[at]
			style.Parent = parent
			out, ok := impl.StyleBox(tree, at, style)
			checkTree(t, fmt.Sprintf("StyleBox(%v, %d, %v)", tree, at, style), out, ok, tree)
		}
	})
}
