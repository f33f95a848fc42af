package tests

import (
	"fmt"
	"regexp"
	"slices"
	"strconv"
	"strings"

	"loop.example/flexlayout/impl"
)

// textOf returns the text of a tree, by the words of the specification.
func textOf(tree []impl.Box) string {
	var lines []string
	for at, b := range tree {
		lines = append(lines, strings.Repeat("-", len(above(tree, at)))+lineOf(b))
	}
	return strings.Join(lines, "\n")
}

// lineOf returns the text of a box without minus signs.
func lineOf(b impl.Box) string {
	out := "leaf " + strconv.Itoa(b.W) + " " + strconv.Itoa(b.H)
	switch b.Kind {
	case impl.BoxBlock:
		out = "block"
	case impl.BoxRow:
		out = "row"
	case impl.BoxColumn:
		out = "column"
	}
	all := fmt.Sprintf(" pad %d gap %d grow %d shrink %d justify %d", b.Pad, b.Gap, b.Grow, b.Shrink, b.Justify)
	return out + zeroStyle.ReplaceAllString(all, "")
}

// zeroStyle is a style that is not in a text.
var zeroStyle = regexp.MustCompile(` [a-z]+ 0\b`)

// boxLine is a line of a text, with its minus signs and numbers, whatever their limits.
var boxLine = regexp.MustCompile(`^(-*)(?:leaf (0|[1-9]\d*) (0|[1-9]\d*)|(block|row|column))(?: pad ([1-9]\d*))?(?: gap ([1-9]\d*))?(?: grow ([1-9]\d*))?(?: shrink ([1-9]\d*))?(?: justify ([1-9]\d*))?$`)

// boxOfLine returns the box of a line, without its Parent, and how many minus signs there are, or -1 if it is no line of a text.
func boxOfLine(line string) (impl.Box, int) {
	m := boxLine.FindStringSubmatch(line)
	if m == nil {
		return impl.Box{}, -1
	}
	number := func(at int) int {
		if m[at] == "" {
			return 0
		}
		n, err := strconv.Atoi(m[at])
		if err != nil {
			return -1
		}
		return n
	}
	kind := slices.Index([]string{"", "block", "row", "column"}, m[4])
	return impl.Box{
		Kind: kind, W: number(2), H: number(3),
		Pad: number(5), Gap: number(6), Grow: number(7), Shrink: number(8), Justify: number(9),
	}, len(m[1])
}

// treeOfText returns the valid tree with a text, or nil if there is none.
func treeOfText(s string) []impl.Box {
	var tree []impl.Box
	var depths []int
	for _, line := range strings.Split(s, "\n") {
		b, depth := boxOfLine(line)
		if depth < 0 {
			return nil
		}
		// The box around a box is the last one before it that is not as deep.
		b.Parent = len(depths) - 1
		for b.Parent >= 0 && depths[b.Parent] >= depth {
			b.Parent--
		}
		if b.Parent < 0 && depth > 0 || b.Parent >= 0 && depths[b.Parent] != depth-1 {
			return nil
		}
		tree, depths = append(tree, b), append(depths, depth)
	}
	if !impl.ValidTree(tree) {
		return nil
	}
	return tree
}

// styledFirstBoxes returns trees of one box, with all kinds and styles of 0, 1 and their limits.
func styledFirstBoxes() [][]impl.Box {
	var out [][]impl.Box
	for n := range 4 * 3 * 3 * 3 * 3 * 4 {
		pick := func(numbers ...int) int {
			picked := numbers[n%len(numbers)]
			n /= len(numbers)
			return picked
		}
		b := impl.Box{
			Parent: -1, Kind: pick(0, 1, 2, 3), Pad: pick(0, 1, impl.MaxEdge), Gap: pick(0, 1, impl.MaxEdge),
			Grow: pick(0, 1, impl.MaxWeight), Shrink: pick(0, 1, impl.MaxWeight), Justify: pick(0, 1, 2, 3),
		}
		if b.Kind == impl.BoxLeaf {
			b.W, b.H = 2*b.Pad, b.Gap
		}
		out = append(out, []impl.Box{b})
	}
	return out
}

// textTrees returns trees of all shapes, kinds and styles.
func textTrees() [][]impl.Box {
	return append(dressedTrees(), styledFirstBoxes()...)
}

// someTexts are texts whose bytes are changed.
func someTexts() []string {
	out := []string{
		"leaf 0 0", "leaf 100 10", "row", "block pad 10 gap 1", "leaf 7 8 pad 1 gap 2 grow 3 shrink 4 justify 2",
		"column\n-row\n--leaf 10 5\n--leaf 20 8\n-leaf 30 6", "row\n-block\n--column\n---leaf 1 1\n-row justify 3\n--leaf 11 11",
		"block\n-block\n--block\n---block\n----block\n-----leaf 9 90 pad 50 shrink 10",
	}
	for _, parents := range fullParents() {
		out = append(out, textOf(styled(parents)))
	}
	return out
}

// eachAlmostText calls a function with all texts that have a byte more, a byte less or another byte than some texts, a line twice, one less or two exchanged, or a word less or twice.
func eachAlmostText(call func(s string)) {
	for _, text := range someTexts() {
		call(text)
		for at := range len(text) + 1 {
			for _, c := range " -\n01259alrk\t\r\x00\xff" {
				call(text[:at] + string(c) + text[at:])
				if at < len(text) {
					call(text[:at] + string(c) + text[at+1:])
				}
			}
			if at < len(text) {
				call(text[:at] + text[at+1:])
			}
		}
		eachRearranged(text, "\n", call)
		eachRearranged(text, " ", call)
	}
}

// eachRearranged calls a function with a text of which a piece between separators is left out, there twice, or exchanged with the next one or the one behind that.
func eachRearranged(text string, separator string, call func(s string)) {
	pieces := strings.Split(text, separator)
	for at := range pieces {
		call(strings.Join(slices.Delete(slices.Clone(pieces), at, at+1), separator))
		call(strings.Join(slices.Insert(slices.Clone(pieces), at, pieces[at]), separator))
		for other := at + 1; other < len(pieces) && other <= at+2; other++ {
			exchanged := slices.Clone(pieces)
			exchanged[at], exchanged[other] = exchanged[other], exchanged[at]
			call(strings.Join(exchanged, separator))
		}
	}
}
