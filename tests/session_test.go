package tests

import (
	"fmt"
	"slices"
	"strings"
	"testing"

	"loop.example/flexlayout/impl"
)

// lookAround are questions behind which a session is known.
var lookAround = []string{"count", "rect 0", "rect 1", "rect 2", "rect 3", "rect 4", "hit 1 1"}

func TestSessionsOfAllLines(t *testing.T) {
	for _, lines := range sessions(6000, impl.MaxLines+2) {
		checkOutput(t, lines)
	}
	for _, first := range edits {
		for _, second := range slices.Concat(edits, questions) {
			checkOutput(t, []string{"add 0 row gap 3 grow 1", "add 1 leaf 7 7", first, second, "count", "rect 0", "rect 1", "rect 2", "rect 3", "hit 9 9"})
		}
	}
}

func TestSessionExamples(t *testing.T) {
	for _, c := range []struct {
		lines []string
		want  string
	}{
		{nil, ""},
		{[]string{}, ""},
		{[]string{"count"}, "1\n"},
		{[]string{"rect 0"}, "0 0 100 100\n"},
		{[]string{"rect 1"}, "no\n"},
		{[]string{"hit 0 0", "hit 99 99", "hit 100 99", "hit 99 100", "hit x 5", "hit 5 -1", "hit 5 5x"}, "0\n0\n-1\n-1\n-1\n-1\n-1\n"},
		{[]string{"add 0 leaf 10 5", "rect 1", "count", "hit 99 4", "hit 99 5"}, "ok\n0 0 100 5\n2\n1\n0\n"},
		{[]string{"add 0 row pad 2 gap 3", "add 1 leaf 10 5", "add 1 leaf 20 9", "rect 1", "rect 2", "rect 3", "remove 2", "rect 2"}, "ok\nok\nok\n0 0 100 13\n2 2 10 9\n15 2 20 9\nok\n2 2 20 9\n"},
		{[]string{"add 0 row", "add 1 leaf 10 5", "remove 1", "count", "rect 1"}, "ok\nok\nok\n1\nno\n"},
		{[]string{"style 0 row pad 10", "add 0 leaf 100 5", "rect 1", "style 1 leaf 100 5 shrink 1", "rect 1", "style 1 row", "rect 1"}, "ok\nok\n10 10 100 80\nok\n10 10 80 80\nok\n10 10 0 80\n"},
		{[]string{"style 0 leaf 5 5", "add 0 leaf 1 1", "rect 0", "style 0 block", "add 0 leaf 1 1"}, "ok\nno\n0 0 100 100\nok\nok\n"},
		{[]string{"add 0 leaf 1 1", "style 0 leaf 5 5", "count"}, "ok\nno\n2\n"},
		{[]string{"size 0 0", "rect 0", "hit 0 0"}, "ok\n0 0 0 0\n-1\n"},
		{[]string{"size 10000 10000", "rect 0", "size 10001 10000", "size 10000 10001", "rect 0"}, "ok\n0 0 10000 10000\nno\nno\n0 0 10000 10000\n"},
		{[]string{"size 5 x", "size x 5", "rect 0", "size 5 7", "rect 0"}, "no\nno\n0 0 100 100\nok\n0 0 5 7\n"},
		{[]string{"remove 0", "remove 1", "remove -1", "remove x", "count"}, "no\nno\nno\nno\n1\n"},
		{[]string{"help", "", "count"}, "what\nwhat\n1\n"},
	} {
		if out := impl.RunSession(c.lines); out != c.want {
			t.Errorf("RunSession(%q) = %q, want %q", c.lines, out, c.want)
		}
	}
}

func TestLinesThatAreAlmostCommands(t *testing.T) {
	before := []string{"style 0 row", "add 0 leaf 10 5", "add 0 row"}
	for _, line := range []string{
		"", " ", "  ", "\n", "\x00", "what", "ok", "no", "help", "counts", "coun", "Count", "COUNT", "count ", " count", "count 0", "count  ", "count\n", "count\t", "count\r",
		"rect", "Rect 0", "rect 0 0", "rect 0 ", "rect  0", " rect 0", "rects 0", "rect\t0", "rect\n0", "rect0", "rect 0 1 2 3",
		"hit", "hit 1", "hit 1 1 1", "hit 1 1 ", "hit  1 1", "hit 1  1", " hit 1 1", "hit\t1 1", "hits 1 1", "hit1 1", "hit 1,1",
		"size", "size 5", "size 5 5 5", "size 5 5 ", "size  5 5", "size 5  5", " size 5 5", "size\t5 5", "sizes 5 5", "size5 5", "size 5x5",
		"remove", "remove 1 1", "remove 1 ", "remove  1", " remove 1", "removes 1", "remove\n1", "remove1",
		"add", "add 0", " add 0 leaf 1 1", "Add 0 leaf 1 1", "adds 0 leaf 1 1", "add\t0 leaf 1 1", "add0 leaf 1 1", "add 0\nleaf", "add leaf", "add row",
		"style", "style 1", " style 1 row", "Style 1 row", "styles 1 row", "style\t1 row", "style1 row", "style 1\nrow", "style row",
	} {
		checkAnswer(t, before, line, "what")
	}
}

func TestWordsThatAreNoNumbers(t *testing.T) {
	before := []string{"style 0 row", "add 0 leaf 10 5", "add 0 row", "add 0 leaf 10 5"}
	for _, line := range []string{"rect 1", "remove 1", "size 1 1", "add 0 leaf 1 1", "style 1 row", "hit 1 1", "hit 11 0"} {
		if got := answerTo(t, before, line); got == "no" || got == "what" || got == "-1" {
			t.Errorf("%q prints %q", line, got)
		}
	}
	for _, word := range []string{
		"-1", "-0", "+1", "01", "00", "000001", "100000", "1000000", "99999999999999999999", "18446744073709551617", "4294967297", "x", "1x", "x1", "1.0", "0x1", "1e0", "1_0", "１", "1\n", "\n1", "1\t", "\xff", "one", "-", "",
	} {
		for _, line := range []string{"rect " + word, "remove " + word, "size " + word + " 1", "size 1 " + word, "add " + word + " leaf 1 1", "style " + word + " row"} {
			checkAnswer(t, before, line, "no")
		}
		checkAnswer(t, before, "hit "+word+" 0", "-1")
		checkAnswer(t, before, "hit 0 "+word, "-1")
	}
	for _, word := range []string{"3", "9", "10", "16", "99", "65537", "99999"} {
		for _, line := range []string{"rect 4" + word, "remove " + word + "4", "add 9" + word + " leaf 1 1", "style 5" + word + " row"} {
			checkAnswer(t, before, line, "no")
		}
	}
	checkAnswer(t, before, "size 99999 1", "no")
	checkAnswer(t, before, "hit 99999 0", "-1")
}

func TestBoxesThatHaveNoText(t *testing.T) {
	before := []string{"style 0 row", "add 0 leaf 10 5", "add 0 row"}
	for _, text := range []string{
		"", " ", "leaf", "leaf 5", "leaf 5 ", "leaf 5 5 ", " leaf 5 5", "leaf  5 5", "leaf 5 5 5", "leaf 05 5", "leaf 101 5", "leaf -1 5", "leaf 5 x", "box", "rows", "row ", " row", "row 5 5",
		"-row", "-leaf 5 5", "--row", "row pad 0", "row pad 51", "row gap 2 pad 1", "row pad 1 pad 1", "row pad", "row pad x", "row justify 4", "row\n", "\nrow", "row\n-leaf 1 1", "leaf 5 5\nleaf 5 5", "row\trow", "row row", "row\r",
	} {
		checkAnswer(t, before, "add 0 "+text, "no")
		checkAnswer(t, before, "add 2 "+text, "no")
		checkAnswer(t, before, "style 1 "+text, "no")
		checkAnswer(t, before, "style 2 "+text, "no")
	}
	for _, text := range []string{"leaf 0 0", "leaf 100 100", "row", "block", "column", "row pad 50 gap 50 grow 10 shrink 10 justify 3", "leaf 7 8 justify 2"} {
		checkAnswer(t, before, "add 0 "+text, "ok")
		checkAnswer(t, before, "add 1 "+text, "no")
		checkAnswer(t, before, "add 2 "+text, "ok")
		checkAnswer(t, before, "style 1 "+text, "ok")
		checkAnswer(t, before, "style 3 "+text, "no")
	}
}

func TestSessionsHaveAllBoxes(t *testing.T) {
	add := "add 0 leaf 1 1"
	kids := slices.Repeat([]string{add}, impl.MaxKids)
	checkAnswer(t, kids[1:], add, "ok")
	checkAnswer(t, kids, add, "no")
	var deep []string
	for depth := range impl.MaxDepth {
		deep = append(deep, fmt.Sprintf("add %d row", depth))
		checkAnswer(t, deep[:depth], deep[depth], "ok")
	}
	checkAnswer(t, deep, fmt.Sprintf("add %d row", impl.MaxDepth), "no")
	checkAnswer(t, deep, fmt.Sprintf("add %d row", impl.MaxDepth-1), "ok")
	full := []string{"add 0 row"}
	for len(full) < impl.MaxBoxes-1 {
		full = append(full, fmt.Sprintf("add %d row", len(full)%2))
	}
	checkAnswer(t, full, "count", fmt.Sprint(impl.MaxBoxes))
	checkAnswer(t, full, "add 3 leaf 1 1", "no")
	checkAnswer(t, full, fmt.Sprintf("rect %d", impl.MaxBoxes), "no")
	checkAnswer(t, full, fmt.Sprintf("style %d leaf 1 1", impl.MaxBoxes-1), "ok")
}

func TestSessionsEnd(t *testing.T) {
	lines := slices.Repeat([]string{"add 0 row", "remove 1", "size 7 8", "help"}, 6)
	for many := range len(lines) + 1 {
		if out := impl.RunSession(lines[:many]); strings.Count(out, "\n") != min(many, impl.MaxLines) || out != outputOf(lines[:many]) {
			t.Errorf("RunSession of %d lines = %q", many, out)
		}
	}
	count := append(slices.Repeat([]string{"help"}, 19), "count")
	for _, more := range [][]string{nil, {"count"}, {"help", "count"}} {
		if out := impl.RunSession(append(slices.Clone(count), more...)); out != strings.Repeat("what\n", 19)+"1\n" {
			t.Errorf("RunSession of 20 lines and %d more = %q", len(more), out)
		}
	}
}

func TestLinesThatFailChangeNothing(t *testing.T) {
	for _, before := range sessions(300, 6) {
		for _, line := range slices.Concat(edits, questions) {
			if got := answerTo(t, before, line); got == "ok" {
				continue
			}
			want := answers(t, append(slices.Clone(before), lookAround...))[len(before):]
			got := answers(t, slices.Concat(before, []string{line}, lookAround))[len(before)+1:]
			if !slices.Equal(got, want) {
				t.Errorf("behind %q the line %q changes %q to %q", before, line, want, got)
			}
		}
	}
}

func TestSessionsKeepNothing(t *testing.T) {
	for _, lines := range sessions(300, impl.MaxLines) {
		given := append(slices.Clone(lines), "count", "count")[:len(lines)]
		first := impl.RunSession(given)
		if !slices.Equal(given, lines) || !slices.Equal(given[:len(given)+2][len(given):], []string{"count", "count"}) {
			t.Errorf("RunSession(%q) changes its argument", lines)
		}
		impl.RunSession([]string{"style 0 row", "add 0 leaf 5 5", "size 3 3"})
		if second := impl.RunSession(given); second != first {
			t.Errorf("RunSession(%q) = %q the second time, was %q", lines, second, first)
		}
	}
}

// P124
func TestSessionsRunLineByLine(t *testing.T) {
	for _, lines := range sessions(600, impl.MaxLines+2) {
		all := impl.RunSession(lines)
		for many := range lines {
			first := impl.RunSession(lines[:many])
			if !strings.HasPrefix(all, first) || strings.Count(first, "\n") != min(many, impl.MaxLines) {
				t.Errorf("RunSession(%q) = %q, and of the first %d lines %q", lines, all, many, first)
			}
		}
	}
}

// P125
func TestQuestionsChangeNothing(t *testing.T) {
	for n, lines := range sessions(2000, impl.MaxLines/2-1) {
		var asked []string
		for i, line := range lines {
			asked = append(asked, line, questions[(7*n+i)%len(questions)])
		}
		checkAnswer(t, asked, "rect 0", answerTo(t, lines, "rect 0"))
		checkAnswer(t, asked, "rect 2", answerTo(t, lines, "rect 2"))
		checkAnswer(t, asked, "count", answerTo(t, lines, "count"))
	}
	for _, question := range questions {
		lines := []string{"style 0 row pad 3", "add 0 leaf 10 5 grow 1", "size 60 70"}
		asked := []string{lines[0], question, lines[1], question, lines[2], question}
		checkAnswer(t, asked, "rect 0", "0 0 60 70")
		checkAnswer(t, asked, "rect 1", "3 3 54 64")
		checkAnswer(t, asked, "count", "2")
	}
}

// P126
func TestScreensHaveSizes(t *testing.T) {
	numbers := []int{0, 1, 9, 10, 99, 100, 101, 1234, impl.MaxBox - 1, impl.MaxBox}
	for n, before := range sessions(300, impl.MaxLines-2) {
		for i, w := range numbers {
			h := numbers[(n+3*i)%len(numbers)]
			lines := append(slices.Clone(before), fmt.Sprintf("size %d %d", w, h))
			if got := answers(t, lines)[len(before)]; got != "ok" {
				t.Errorf("%q prints %q at last", lines, got)
			}
			checkAnswer(t, lines, "rect 0", fmt.Sprintf("0 0 %d %d", w, h))
		}
	}
	for _, w := range numbers {
		for _, h := range numbers {
			lines := []string{fmt.Sprintf("size %d %d", w, h)}
			checkAnswer(t, lines, "rect 0", fmt.Sprintf("0 0 %d %d", w, h))
			for _, wrong := range []string{"size 10001 1", "size 1 10001", "size -1 1", "size 1 -1", "size 01 1", "size 100000 1"} {
				checkAnswer(t, append(lines, wrong), "rect 0", fmt.Sprintf("0 0 %d %d", w, h))
			}
		}
	}
}

// P127
func TestRowsShareTheirWidths(t *testing.T) {
	for _, first := range []int{0, 1, 10, 35, 36, 100} {
		for _, second := range []int{0, 7, 36, 64} {
			for grow := 1; grow <= impl.MaxWeight; grow += 3 {
				for _, width := range []int{0, 100, 101, 250, impl.MaxBox} {
					lines := []string{
						"style 0 row", fmt.Sprintf("add 0 leaf %d 5 grow %d", first, grow), fmt.Sprintf("add 0 leaf %d 8 grow %d", second, grow),
						fmt.Sprintf("size %d 20", width),
					}
					left := max(0, width-first-second)
					w := first + (left+1)/2
					checkAnswer(t, lines, "rect 1", fmt.Sprintf("0 0 %d 20", w))
					checkAnswer(t, lines, "rect 2", fmt.Sprintf("%d 0 %d 20", w, second+left/2))
				}
			}
		}
	}
}

// P180
func TestAddedBoxesCanBeRemoved(t *testing.T) {
	for _, text := range []string{"leaf 0 0", "leaf 100 100", "leaf 5 6 pad 1 gap 2 grow 3 shrink 4 justify 1", "leaf 9 9 grow 10"} {
		for _, first := range []string{"block", "row", "column pad 4 gap 3"} {
			lines := []string{"style 0 " + first, "add 0 " + text}
			checkAnswer(t, lines, "count", "2")
			checkAnswer(t, lines, "remove 1", "ok")
			lines = append(lines, "remove 1")
			checkAnswer(t, lines, "count", "1")
			checkAnswer(t, lines, "rect 1", "no")
			checkAnswer(t, lines, "rect 0", "0 0 100 100")
		}
	}
	for _, before := range sessions(600, 8) {
		many := answerTo(t, before, "count")
		lines := append(slices.Clone(before), "add 0 leaf 3 3")
		if answers(t, lines)[len(before)] != "ok" {
			continue
		}
		// The new box is the last one of the first box, and so of all.
		lines = append(lines, "remove "+many)
		for _, line := range append([]string{"rect 16"}, lookAround...) {
			checkAnswer(t, lines, line, answerTo(t, before, line))
		}
	}
}
