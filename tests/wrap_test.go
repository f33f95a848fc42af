package tests

import (
	"fmt"
	"slices"
	"testing"

	"loop.example/flexlayout/impl"
)

// parts returns parts of lines from pairs of a width and a height.
func parts(pairs ...[2]int) []impl.Part {
	var out []impl.Part
	for _, pair := range pairs {
		out = append(out, impl.Part{W: pair[0], H: pair[1]})
	}
	return out
}

// allParts returns valid parts: none, all short lists, parts without points and those at their limits among them, and as many as possible.
func allParts() [][]impl.Part {
	most, large := impl.MaxItems, impl.MaxBox
	out := [][]impl.Part{
		nil, {}, make([]impl.Part, most), slices.Repeat(parts([2]int{large, large}), most), slices.Repeat(parts([2]int{large, large}, [2]int{0, 3}), most/2),
		slices.Repeat(parts([2]int{30, 10}, [2]int{50, 20}, [2]int{40, 5}), most/3), slices.Repeat(parts([2]int{1, 1}), most-1),
		parts([2]int{3, 1}, [2]int{1, 4}, [2]int{4, 1}, [2]int{1, 5}, [2]int{5, 9}, [2]int{9, 2}, [2]int{2, 6}, [2]int{6, 5}, [2]int{5, 3}, [2]int{3, 5}, [2]int{0, 8}, [2]int{7, 9}),
	}
	kinds := parts([2]int{0, 0}, [2]int{0, 4}, [2]int{3, 0}, [2]int{2, 7}, [2]int{5, 2}, [2]int{large, 1}, [2]int{4, large})
	rows([]int{0, 1, 2, 3, 4, 5, 6}, 4, func(row []int) {
		list := make([]impl.Part, len(row))
		for i, kind := range row {
			list[i] = kinds[kind]
		}
		out = append(out, list)
	})
	return out
}

// wrongParts returns parts that are not valid.
func wrongParts() [][]impl.Part {
	out := [][]impl.Part{make([]impl.Part, impl.MaxItems+1), slices.Repeat(parts([2]int{3, 4}), impl.MaxItems+1), make([]impl.Part, 1000)}
	for _, n := range wrongSizes {
		for _, wrong := range []impl.Part{{W: n, H: 5}, {W: 5, H: n}, {W: n, H: n}, {W: n}, {H: n}} {
			for at := range 3 {
				list := parts([2]int{1, 2}, [2]int{3, 4}, [2]int{5, 6})
				list[at] = wrong
				out = append(out, list, list[at:at+1])
			}
			full := make([]impl.Part, impl.MaxItems)
			full[impl.MaxItems-1] = wrong
			out = append(out, full)
		}
	}
	return out
}

// someWidths are widths of lines.
var someWidths = []int{0, 1, 3, 5, 6, 8, 9, 13, 84, 85, 90, impl.MaxBox - 1, impl.MaxBox}

// eachWrap calls a function with all parts, widths with and without room for them, and gaps.
func eachWrap(call func(list []impl.Part, width int, gap int)) {
	for _, list := range allParts() {
		for _, width := range someWidths {
			for _, gap := range []int{0, 1, impl.MaxEdge} {
				call(list, width, gap)
			}
		}
	}
}

// widthOf returns the widths of some parts and the gaps between them together.
func widthOf(line []impl.Part, gap int) int {
	var widths []int
	for _, part := range line {
		widths = append(widths, part.W)
	}
	return needed(widths, gap)
}

// heightOf returns the greatest height of some parts.
func heightOf(line []impl.Part) int {
	var heights []int
	for _, part := range line {
		heights = append(heights, part.H)
	}
	return slices.Max(heights)
}

// wrapped returns the lines of parts: of all their beginnings the longest one that is not too wide, but at least one part, is a line.
func wrapped(list []impl.Part, width int, gap int) [][]impl.Part {
	var lines [][]impl.Part
	for len(list) > 0 {
		many := len(list)
		for many > 1 && widthOf(list[:many], gap) > width {
			many--
		}
		lines = append(lines, list[:many])
		list = list[many:]
	}
	return lines
}

// countsOf returns how many parts each line has.
func countsOf(lines [][]impl.Part) []int {
	var out []int
	for _, line := range lines {
		out = append(out, len(line))
	}
	return out
}

// heightsOf returns how high each line is.
func heightsOf(lines [][]impl.Part) []int {
	var out []int
	for _, line := range lines {
		out = append(out, heightOf(line))
	}
	return out
}

// rectsOf returns the rectangles of parts in lines.
func rectsOf(lines [][]impl.Part, gap int) []impl.Rect {
	var out []impl.Rect
	for i, line := range lines {
		top := total(heightsOf(lines[:i])) + i*gap
		for j, part := range line {
			left := j * gap
			for _, before := range line[:j] {
				left += before.W
			}
			out = append(out, rect(left, top, part.W, part.H))
		}
	}
	return out
}

// mustLines returns the lines that LineCounts tells, and ends the test if these are not all parts.
func mustLines(t *testing.T, list []impl.Part, width int, gap int) [][]impl.Part {
	t.Helper()
	var lines [][]impl.Part
	left := list
	counts := impl.LineCounts(list, width, gap)
	for _, many := range counts {
		if many < 1 || many > len(left) {
			t.Fatalf("LineCounts(%v, %d, %d) = %v", list, width, gap, counts)
		}
		lines = append(lines, left[:many])
		left = left[many:]
	}
	if len(left) > 0 {
		t.Fatalf("LineCounts(%v, %d, %d) = %v", list, width, gap, counts)
	}
	return lines
}

// mustRects returns the rectangles of parts, and ends the test if there is not one for each.
func mustRects(t *testing.T, list []impl.Part, width int, gap int) []impl.Rect {
	t.Helper()
	rects := impl.WrapParts(list, width, gap)
	if len(rects) != len(list) {
		t.Fatalf("WrapParts(%v, %d, %d) = %v", list, width, gap, rects)
	}
	return rects
}

func TestLinesOfAllParts(t *testing.T) {
	for _, list := range allParts() {
		if !impl.ValidParts(list) {
			t.Errorf("ValidParts(%v) is false", list)
		}
	}
	eachWrap(func(list []impl.Part, width int, gap int) {
		lines := wrapped(list, width, gap)
		counts, heights := impl.LineCounts(list, width, gap), impl.LineHeights(list, width, gap)
		if !slices.Equal(counts, countsOf(lines)) || !slices.Equal(heights, heightsOf(lines)) {
			t.Errorf("LineCounts and LineHeights(%v, %d, %d) = %v and %v", list, width, gap, counts, heights)
		}
		if rects := impl.WrapParts(list, width, gap); !slices.Equal(rects, rectsOf(lines, gap)) {
			t.Errorf("WrapParts(%v, %d, %d) = %v", list, width, gap, rects)
		}
		want := 0
		if len(lines) > 0 {
			want = needed(heightsOf(lines), gap)
		}
		if height := impl.WrapHeight(list, width, gap); height != want {
			t.Errorf("WrapHeight(%v, %d, %d) = %d, want %d", list, width, gap, height, want)
		}
	})
}

func TestLinesExamples(t *testing.T) {
	list := parts([2]int{30, 10}, [2]int{50, 20}, [2]int{40, 5})
	large := impl.MaxBox
	halves := slices.Repeat(parts([2]int{large / 2, 1}), 4)
	for _, c := range []struct {
		what            string
		list            []impl.Part
		width, gap      int
		counts, heights []int
		height          int
	}{
		{"no parts", nil, 90, 5, nil, nil, 0},
		{"no parts, which are not nil, in no width", []impl.Part{}, 0, 0, nil, nil, 0},
		{"two lines", list, 90, 5, []int{2, 1}, []int{20, 5}, 30},
		{"a line that is full", list, 85, 5, []int{2, 1}, []int{20, 5}, 30},
		{"a line that is 1 too narrow", list, 84, 5, []int{1, 1, 1}, []int{10, 20, 5}, 45},
		{"a last line that is full", list, 95, 5, []int{2, 1}, []int{20, 5}, 30},
		{"no gaps", list, 80, 0, []int{2, 1}, []int{20, 5}, 25},
		{"one line that is full", list, 130, 5, []int{3}, []int{20}, 20},
		{"one line that is 1 too narrow", list, 129, 5, []int{2, 1}, []int{20, 5}, 30},
		{"parts wider than the width", list, 10, 5, []int{1, 1, 1}, []int{10, 20, 5}, 45},
		{"one part wider than the width", list, 40, 5, []int{1, 1, 1}, []int{10, 20, 5}, 45},
		{"no width", list, 0, 5, []int{1, 1, 1}, []int{10, 20, 5}, 45},
		{"a wide part and one without a width", parts([2]int{11, 1}, [2]int{0, 2}), 10, 0, []int{1, 1}, []int{1, 2}, 3},
		{"a full line and a part without a width", parts([2]int{10, 1}, [2]int{0, 2}), 10, 0, []int{2}, []int{2}, 2},
		{"a full line and a gap", parts([2]int{10, 1}, [2]int{0, 2}), 10, 1, []int{1, 1}, []int{1, 2}, 4},
		{"parts without widths, in no width", parts([2]int{0, 1}, [2]int{0, 3}, [2]int{0, 2}), 0, 0, []int{3}, []int{3}, 3},
		{"parts without widths, with gaps, in no width", parts([2]int{0, 1}, [2]int{0, 3}), 0, 1, []int{1, 1}, []int{1, 3}, 5},
		{"lines without heights", parts([2]int{5, 0}, [2]int{5, 0}, [2]int{5, 0}), 5, 2, []int{1, 1, 1}, []int{0, 0, 0}, 4},
		{"the largest width", halves, large, 0, []int{2, 2}, []int{1, 1}, 2},
		{"the largest width, with gaps", halves, large, 1, []int{1, 1, 1, 1}, []int{1, 1, 1, 1}, 7},
		{"the largest parts", slices.Repeat(parts([2]int{large, large}), 12), large, impl.MaxEdge, times(1, 12), times(large, 12), 120550},
	} {
		checkRow(t, "LineCounts of "+c.what, impl.LineCounts(c.list, c.width, c.gap), c.counts...)
		checkRow(t, "LineHeights of "+c.what, impl.LineHeights(c.list, c.width, c.gap), c.heights...)
		if height := impl.WrapHeight(c.list, c.width, c.gap); height != c.height {
			t.Errorf("WrapHeight of %s = %d, want %d", c.what, height, c.height)
		}
	}
}

func TestWrapPartsExamples(t *testing.T) {
	list := parts([2]int{30, 10}, [2]int{50, 20}, [2]int{40, 5})
	checkRects(t, "WrapParts in two lines", impl.WrapParts(list, 90, 5), rect(0, 0, 30, 10), rect(35, 0, 50, 20), rect(0, 25, 40, 5))
	checkRects(t, "WrapParts in one line", impl.WrapParts(list, 130, 5), rect(0, 0, 30, 10), rect(35, 0, 50, 20), rect(90, 0, 40, 5))
	checkRects(t, "WrapParts without gaps", impl.WrapParts(list, 80, 0), rect(0, 0, 30, 10), rect(30, 0, 50, 20), rect(0, 20, 40, 5))
	checkRects(t, "WrapParts of wide parts", impl.WrapParts(list, 10, 5), rect(0, 0, 30, 10), rect(0, 15, 50, 20), rect(0, 40, 40, 5))
	checkRects(t, "WrapParts of nothing", impl.WrapParts(nil, 10, 5))
	// The last lines of the largest parts lie below MaxPlace, where no corner of a valid rectangle is.
	large := impl.MaxBox
	rects := mustRects(t, slices.Repeat(parts([2]int{large, large}), impl.MaxItems), large, impl.MaxEdge)
	checkRects(t, "the last lines of WrapParts", rects[9:], rect(0, 90450, large, large), rect(0, 100500, large, large), rect(0, 110550, large, large))
}

func TestLinesOfWrongArguments(t *testing.T) {
	check := func(list []impl.Part, width int, gap int) {
		t.Helper()
		what := fmt.Sprintf("(%v, %d, %d)", list, width, gap)
		checkNil(t, "LineCounts"+what, impl.LineCounts(list, width, gap))
		checkNil(t, "LineHeights"+what, impl.LineHeights(list, width, gap))
		if rects := impl.WrapParts(list, width, gap); rects != nil {
			t.Errorf("WrapParts%s = %v", what, rects)
		}
		if height := impl.WrapHeight(list, width, gap); height != -1 {
			t.Errorf("WrapHeight%s = %d", what, height)
		}
	}
	for _, list := range wrongParts() {
		if impl.ValidParts(list) {
			t.Errorf("ValidParts(%v) is true", list)
		}
		for _, width := range []int{0, 90, impl.MaxBox} {
			check(list, width, 0)
			check(list, width, 5)
		}
	}
	for _, list := range [][]impl.Part{nil, {}, parts([2]int{0, 0}), parts([2]int{30, 10}, [2]int{50, 20}, [2]int{40, 5})} {
		for _, width := range wrongSizes {
			check(list, width, 0)
			check(list, width, 5)
		}
		for _, gap := range append([]int{-1, impl.MaxEdge + 1}, farNumbers...) {
			check(list, 0, gap)
			check(list, 90, gap)
			check(list, impl.MaxBox, gap)
		}
	}
}

func TestLinesChangeNothing(t *testing.T) {
	wide := func(numbers ...int) []impl.Part {
		var out []impl.Part
		for _, n := range numbers {
			out = append(out, impl.Part{W: n})
		}
		return out
	}
	for _, list := range [][]impl.Part{nil, parts([2]int{5, 6}), parts([2]int{30, 10}, [2]int{50, 20}, [2]int{40, 5}), make([]impl.Part, impl.MaxItems)} {
		for name, call := range map[string]func(list []impl.Part) []impl.Part{
			"ValidParts":  func(list []impl.Part) []impl.Part { impl.ValidParts(list); return nil },
			"LineCounts":  func(list []impl.Part) []impl.Part { return wide(impl.LineCounts(list, 90, 5)...) },
			"LineHeights": func(list []impl.Part) []impl.Part { return wide(impl.LineHeights(list, 90, 5)...) },
			"WrapHeight":  func(list []impl.Part) []impl.Part { return wide(impl.WrapHeight(list, 90, 5)) },
			"WrapParts": func(list []impl.Part) []impl.Part {
				var out []impl.Part
				for _, r := range impl.WrapParts(list, 90, 5) {
					out = append(out, wide(r.X, r.Y, r.W, r.H)...)
				}
				return out
			},
		} {
			checkFreshList(t, fmt.Sprintf("%s(%v)", name, list), list, impl.Part{W: 1, H: 1}, impl.Part{W: -77}, call)
		}
		for _, call := range []func(list []impl.Part, width int, gap int) []int{impl.LineCounts, impl.LineHeights} {
			first := call(list, 90, 5)
			kept := slices.Clone(first)
			spoil(first)
			checkRow(t, fmt.Sprintf("LineCounts or LineHeights(%v) again", list), call(list, 90, 5), kept...)
		}
		first := impl.WrapParts(list, 90, 5)
		kept := slices.Clone(first)
		for i := range first[:cap(first)] {
			first[:cap(first)][i] = rect(-77, -77, -77, -77)
		}
		checkRects(t, fmt.Sprintf("WrapParts(%v) again", list), impl.WrapParts(list, 90, 5), kept...)
	}
}

// P106
func TestPartsCanBeLeftOut(t *testing.T) {
	for _, list := range allParts() {
		for at := range list {
			if less := slices.Delete(slices.Clone(list), at, at+1); !impl.ValidParts(list) || !impl.ValidParts(less) {
				t.Errorf("ValidParts(%v) and ValidParts(%v) are not both true", list, less)
			}
		}
	}
}

// P107
func TestLinesHaveAllParts(t *testing.T) {
	eachWrap(func(list []impl.Part, width int, gap int) {
		for _, line := range mustLines(t, list, width, gap) {
			if len(line) > 1 && widthOf(line, gap) > width {
				t.Errorf("LineCounts(%v, %d, %d) has a line that is too wide: %v", list, width, gap, line)
			}
		}
	})
}

// P108
func TestLinesAreFilled(t *testing.T) {
	eachWrap(func(list []impl.Part, width int, gap int) {
		lines := mustLines(t, list, width, gap)
		for i := 1; i < len(lines); i++ {
			if longer := append(slices.Clone(lines[i-1]), lines[i][0]); widthOf(longer, gap) <= width {
				t.Errorf("LineCounts(%v, %d, %d) has a line that is too short: %v", list, width, gap, lines[i-1])
			}
		}
	})
}

// P109
func TestLinesAreAsHighAsTheirParts(t *testing.T) {
	eachWrap(func(list []impl.Part, width int, gap int) {
		lines, heights := mustLines(t, list, width, gap), impl.LineHeights(list, width, gap)
		if len(heights) != len(lines) {
			t.Fatalf("LineHeights(%v, %d, %d) = %v", list, width, gap, heights)
		}
		for i, line := range lines {
			higher := func(part impl.Part) bool { return part.H > heights[i] }
			asHigh := func(part impl.Part) bool { return part.H == heights[i] }
			if slices.ContainsFunc(line, higher) || !slices.ContainsFunc(line, asHigh) {
				t.Errorf("LineHeights(%v, %d, %d) = %v, with line %d of %v", list, width, gap, heights, i, line)
			}
		}
	})
}

// P110
func TestWrappedPartsDoNotOverlap(t *testing.T) {
	eachWrap(func(list []impl.Part, width int, gap int) {
		rects := mustRects(t, list, width, gap)
		for i, a := range rects {
			if a.W != list[i].W || a.H != list[i].H {
				t.Errorf("WrapParts(%v, %d, %d) = %v, with a wrong size of %v", list, width, gap, rects, a)
			}
			for _, b := range rects[:i] {
				if max(a.X, b.X) < min(a.X+a.W, b.X+b.W) && max(a.Y, b.Y) < min(a.Y+a.H, b.Y+b.H) {
					t.Errorf("WrapParts(%v, %d, %d) = %v, of which %v and %v overlap", list, width, gap, rects, a, b)
				}
			}
		}
	})
}

// P111
func TestWrappedPartsAreInTheWidth(t *testing.T) {
	eachWrap(func(list []impl.Part, width int, gap int) {
		rects := mustRects(t, list, width, gap)
		for _, line := range mustLines(t, list, width, gap) {
			for i, r := range rects[:len(line)] {
				if i == 0 && r.X != 0 || i > 0 && r.X+r.W > width || r.Y != rects[0].Y {
					t.Errorf("WrapParts(%v, %d, %d) has %v in a line", list, width, gap, r)
				}
			}
			rects = rects[len(line):]
		}
	})
}

// P112
func TestHeightsAreWhereTheLastPartsEnd(t *testing.T) {
	eachWrap(func(list []impl.Part, width int, gap int) {
		end := 0
		for _, r := range mustRects(t, list, width, gap) {
			end = max(end, r.Y+r.H)
		}
		if height := impl.WrapHeight(list, width, gap); height != end {
			t.Errorf("WrapHeight(%v, %d, %d) = %d, but the parts end at %d", list, width, gap, height, end)
		}
	})
}

// P113
func TestWideScreensNeedOneLine(t *testing.T) {
	eachWrap(func(list []impl.Part, width int, gap int) {
		if len(list) == 0 {
			return
		}
		for _, enough := range []int{widthOf(list, gap), widthOf(list, gap) + 1, impl.MaxBox} {
			if enough < widthOf(list, gap) || enough > impl.MaxBox {
				continue
			}
			checkRow(t, fmt.Sprintf("LineCounts(%v, %d, %d)", list, enough, gap), impl.LineCounts(list, enough, gap), len(list))
			if height := impl.WrapHeight(list, enough, gap); height != heightOf(list) {
				t.Errorf("WrapHeight(%v, %d, %d) = %d", list, enough, gap, height)
			}
		}
	})
}

// P176
func TestNarrowScreensHaveOnePartInALine(t *testing.T) {
	for _, list := range allParts() {
		if slices.ContainsFunc(list, func(part impl.Part) bool { return part.W == 0 }) {
			continue
		}
		for _, gap := range []int{0, 1, impl.MaxEdge} {
			checkRow(t, fmt.Sprintf("LineCounts(%v, 0, %d)", list, gap), impl.LineCounts(list, 0, gap), times(1, len(list))...)
		}
	}
}

// P177
func TestWiderScreensNeedFewerLines(t *testing.T) {
	for _, list := range allParts() {
		for _, gap := range []int{0, 1, impl.MaxEdge} {
			for i := 1; i < len(someWidths); i++ {
				narrow, wide := mustLines(t, list, someWidths[i-1], gap), mustLines(t, list, someWidths[i], gap)
				if len(wide) > len(narrow) {
					t.Errorf("LineCounts(%v, %d, %d) are %d lines, more than in %d", list, someWidths[i], gap, len(wide), someWidths[i-1])
				}
			}
		}
	}
}
