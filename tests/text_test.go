package tests

import (
	"fmt"
	"slices"
	"strings"
	"testing"

	"loop.example/flexlayout/impl"
)

// mustParse returns the tree with a text, and ends the test if there is none.
func mustParse(t *testing.T, s string) []impl.Box {
	t.Helper()
	tree, ok := impl.ParseTree(s)
	return mustTree(t, fmt.Sprintf("ParseTree(%q)", s), tree, ok)
}

// checkText reports an error unless a tree has a text, and this has the tree.
func checkText(t *testing.T, tree []impl.Box, want string) {
	t.Helper()
	if s := impl.FormatTree(tree); s != want {
		t.Errorf("FormatTree(%v) = %q, want %q", tree, s, want)
	}
	got, ok := impl.ParseTree(want)
	checkTree(t, fmt.Sprintf("ParseTree(%q)", want), got, ok, tree)
}

func TestTextsOfAllTrees(t *testing.T) {
	for _, tree := range textTrees() {
		checkText(t, tree, textOf(tree))
	}
}

func TestTextExamples(t *testing.T) {
	full := impl.Box{Parent: -1, Kind: impl.BoxColumn, Pad: impl.MaxEdge, Gap: impl.MaxEdge, Grow: impl.MaxWeight, Shrink: impl.MaxWeight, Justify: impl.JustifyBetween}
	for _, c := range []struct {
		text string
		tree []impl.Box
	}{
		{"leaf 0 0", []impl.Box{leaf(-1, 0, 0)}},
		{"leaf 100 100", []impl.Box{leaf(-1, impl.MaxLeaf, impl.MaxLeaf)}},
		{"leaf 0 7", []impl.Box{leaf(-1, 0, 7)}},
		{"leaf 7 0", []impl.Box{leaf(-1, 7, 0)}},
		{"block", []impl.Box{box(-1, impl.BoxBlock)}},
		{"row", []impl.Box{box(-1, impl.BoxRow)}},
		{"column", []impl.Box{box(-1, impl.BoxColumn)}},
		{"column pad 50 gap 50 grow 10 shrink 10 justify 3", []impl.Box{full}},
		{"block pad 5", []impl.Box{{Parent: -1, Kind: impl.BoxBlock, Pad: 5}}},
		{"block gap 5", []impl.Box{{Parent: -1, Kind: impl.BoxBlock, Gap: 5}}},
		{"row grow 5", []impl.Box{{Parent: -1, Kind: impl.BoxRow, Grow: 5}}},
		{"row shrink 5", []impl.Box{{Parent: -1, Kind: impl.BoxRow, Shrink: 5}}},
		{"row justify 1", []impl.Box{{Parent: -1, Kind: impl.BoxRow, Justify: impl.JustifyEnd}}},
		{"leaf 7 8 gap 2 shrink 4", []impl.Box{{Parent: -1, W: 7, H: 8, Gap: 2, Shrink: 4}}},
		{"row\n-leaf 1 2\n-leaf 3 4", []impl.Box{box(-1, impl.BoxRow), leaf(0, 1, 2), leaf(0, 3, 4)}},
		{
			"row\n-block\n--column\n---leaf 1 1\n-leaf 2 2",
			[]impl.Box{box(-1, impl.BoxRow), box(0, impl.BoxBlock), box(1, impl.BoxColumn), leaf(2, 1, 1), leaf(0, 2, 2)},
		},
		{
			"row\n-row\n--row\n---row\n----row\n-----row\n-----row\n----row\n---row\n--row\n-row",
			[]impl.Box{
				box(-1, impl.BoxRow), box(0, impl.BoxRow), box(1, impl.BoxRow), box(2, impl.BoxRow), box(3, impl.BoxRow), box(4, impl.BoxRow),
				box(4, impl.BoxRow), box(3, impl.BoxRow), box(2, impl.BoxRow), box(1, impl.BoxRow), box(0, impl.BoxRow),
			},
		},
	} {
		checkText(t, c.tree, c.text)
	}
}

func TestFormatTreeOfWrongTrees(t *testing.T) {
	for _, tree := range wrongTrees() {
		if s := impl.FormatTree(tree); s != "" {
			t.Errorf("FormatTree(%v) = %q", tree, s)
		}
	}
}

// checkNoText reports an error unless there is no tree with a text.
func checkNoText(t *testing.T, s string) {
	t.Helper()
	tree, ok := impl.ParseTree(s)
	checkNoTree(t, fmt.Sprintf("ParseTree(%q)", s), tree, ok)
}

func TestParseTreeOfWrongLines(t *testing.T) {
	for _, line := range []string{
		"", " ", "\n", "-", "box", "Leaf 1 1", "ROW", "rows", "ro", "leaf", "leaf ", "leaf 5", "leaf 5 ", "leaf  5 5", "leaf 5  5", "leaf 5 5 ", " leaf 5 5", "leaf 5 5 5",
		"leaf 5 x", "leaf x 5", "leaf -1 5", "leaf 5 -1", "leaf +1 5", "leaf 5 +1", "leaf -0 5", "leaf 05 5", "leaf 5 05", "leaf 00 5", "leaf 5 00", "leaf 5 5.0", "leaf 5 0x5", "leaf 1_0 5",
		"leaf 101 5", "leaf 5 101", "leaf 123456 5", "leaf 5 100000", "leaf 5 000005", "leaf 5 99999999999999999999", "leaf 18446744073709551621 5", "leaf 5 18446744073709551621", "leaf 4294967301 5",
		"leaf\t5 5", "leaf 5\t5", "leaf 5 5\r", "leaf 5 5\x00", "leaf 5 5\xff", "leaf ５ 5", "leaf 5 5\u00a0", "leaf 5,5", "leaf 5 pad 1", "leaf pad 1 5 5", "5 5", "pad 1", "leaf 5 5 5 pad 1",
		"row 5 5", "row 0 0", "block 1", "column 1 1", "row ", " row", "row  ", "row\t", "row\r", "row leaf", "row row", "leaf 5 5 row", "leaf 5 5 leaf 5 5", "row-", "row -", "- row", "-row", "--row", "–row",
		"row pad", "row pad ", "row pad x", "row pad  1", "row  pad 1", "row pad 1 ", "row pad -1", "row pad +1", "row pad 01", "row pad 0", "row gap 0", "row grow 0", "row shrink 0", "row justify 0",
		"row pad 51", "row gap 51", "row grow 11", "row shrink 11", "row justify 4", "row pad 100000", "row pad 18446744073709551617", "row gap 4294967297", "row Pad 1", "row pads 1", "row padding 1", "row size 1",
		"row pad 1 pad 1", "row gap 1 gap 2", "row grow 1 grow 1", "row shrink 2 shrink 1", "row justify 1 justify 1", "row pad 1 2", "row pad gap 1", "row 1 pad", "row pad 1 gap", "row pad 1 gap 2 pad 1",
		"row gap 2 pad 1", "row grow 1 gap 1", "row shrink 1 grow 1", "row justify 1 shrink 1", "row justify 1 pad 1", "row pad 0 gap 1", "row pad 1 gap 0 grow 1", "row pad 1 gap 1 grow 1 shrink 1 justify 0",
	} {
		checkNoText(t, line)
		checkNoText(t, "row\n-"+line)
		checkNoText(t, "row\n-"+line+"\n-leaf 1 1")
		checkNoText(t, line+"\n-leaf 1 1")
	}
}

func TestParseTreeOfWrongShapes(t *testing.T) {
	deep := textOf(styled(chain(impl.MaxDepth)))
	star := "row" + strings.Repeat("\n-leaf 1 1", impl.MaxKids)
	full := textOf(styled(fullParents()[3]))
	for _, s := range []string{deep, star, full} {
		mustParse(t, s)
	}
	for _, s := range []string{
		// Depths that jump, at the beginning, downwards, behind a way back, and by far.
		"-row", "--leaf 1 1", "-row\n-leaf 1 1", "row\n--leaf 1 1", "row\n-row\n---leaf 1 1", "row\n-row\n--row\n-row\n---leaf 1 1", "row\n-row\n--leaf 1 1\n----leaf 1 1", "row\n-----leaf 1 1",
		"row\n" + strings.Repeat("-", 100000) + "leaf 1 1", strings.Repeat("-", 100000),
		// A first box more.
		"row\nrow", "row\n-leaf 1 1\nrow", "leaf 1 1\nleaf 1 1", "row\n-leaf 1 1\nrow\n-leaf 1 1",
		// Boxes in leaves.
		"leaf 1 1\n-leaf 1 1", "row\n-leaf 1 1\n--leaf 1 1", "row\n-leaf 1 1\n--row\n-leaf 1 1",
		// Lines without boxes.
		"row\n", "\nrow", "row\n\n-leaf 1 1", "row\n-leaf 1 1\n", "row\n-leaf 1 1\n\n", "row\n-", "row\n-\n-leaf 1 1", "row\r\n-leaf 1 1", "row\r-leaf 1 1", "row\n -leaf 1 1", "row\n- leaf 1 1", "row \n-leaf 1 1", "row -leaf 1 1",
		// One more than the limits.
		strings.Replace(deep, "leaf ", "row\n------leaf ", 1), textOf(styled(chain(impl.MaxDepth + 1))), star + "\n-leaf 1 1", full + "\n-leaf 1 1", "row" + strings.Repeat("\n-row\n--leaf 1 1", 8),
		strings.Repeat("row\n", 100000) + "row",
	} {
		checkNoText(t, s)
	}
}

func TestParseTreeOfAlmostTexts(t *testing.T) {
	eachAlmostText(func(s string) {
		got, ok := impl.ParseTree(s)
		if want := treeOfText(s); ok != (want != nil) || !slices.Equal(got, want) {
			t.Errorf("ParseTree(%q) = %v, %v, want %v", s, got, ok, want)
		}
	})
}

func TestTextsChangeNothing(t *testing.T) {
	for _, tree := range trees() {
		checkFreshTree(t, "FormatTree", tree, func(tree []impl.Box) []impl.Box { impl.FormatTree(tree); return nil })
		s := impl.FormatTree(tree)
		first := mustParse(t, s)
		for i := range first[:cap(first)] {
			first[:cap(first)][i] = leaf(-77, -77, -77)
		}
		second, ok := impl.ParseTree(s)
		checkTree(t, fmt.Sprintf("ParseTree(%q) again", s), second, ok, tree)
	}
}

// P114
func TestTextsOfTreesLoseNothing(t *testing.T) {
	for _, tree := range textTrees() {
		s := impl.FormatTree(tree)
		got, ok := impl.ParseTree(s)
		checkTree(t, fmt.Sprintf("ParseTree(%q)", s), got, ok, tree)
	}
}

// P115
func TestTreesHaveOneText(t *testing.T) {
	accepted := 0
	eachAlmostText(func(s string) {
		tree, ok := impl.ParseTree(s)
		if !ok {
			return
		}
		accepted++
		if back := impl.FormatTree(tree); back != s {
			t.Errorf("FormatTree of ParseTree(%q) = %q", s, back)
		}
	})
	if accepted < 1000 {
		t.Errorf("ParseTree accepts only %d texts", accepted)
	}
}

// P116
func TestTextsOfTreesHaveALineForEachBox(t *testing.T) {
	kinds := []string{"leaf", "block", "row", "column"}
	for _, tree := range textTrees() {
		s := impl.FormatTree(tree)
		if strings.Count(s, "\n") != len(tree)-1 {
			t.Errorf("FormatTree(%v) = %q, without a line for each box", tree, s)
		}
		if first := strings.FieldsFunc(s, func(r rune) bool { return r == ' ' || r == '\n' }); first[0] != kinds[tree[0].Kind] || !strings.HasPrefix(s, first[0]) {
			t.Errorf("FormatTree(%v) = %q, without the kind of the first box", tree, s)
		}
	}
}

// P179
func TestTextsOfTreesHaveOnlyTheSpacesThatTheyNeed(t *testing.T) {
	for _, tree := range textTrees() {
		s := impl.FormatTree(tree)
		if s == "" || strings.Contains(s, "  ") || strings.Contains(s, " \n") || strings.HasSuffix(s, " ") {
			t.Errorf("FormatTree(%v) = %q", tree, s)
		}
		for _, line := range strings.Split(s, "\n") {
			// Nothing else separates words, so there is a space between each two of them.
			if strings.ContainsAny(line, "\t\r\v\f") || strings.HasPrefix(strings.TrimLeft(line, "-"), " ") {
				t.Errorf("FormatTree(%v) has the line %q", tree, line)
			}
		}
	}
}
