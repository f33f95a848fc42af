package tests

import (
	"fmt"
	"regexp"
	"slices"
	"strconv"
	"strings"
	"testing"

	"loop.example/flexlayout/impl"
)

// answers returns the lines of the output of a session, and ends the test if there is not one for each line that is executed.
func answers(t *testing.T, lines []string) []string {
	t.Helper()
	out := impl.RunSession(lines)
	if strings.Count(out, "\n") != min(len(lines), impl.MaxLines) || out != "" && !strings.HasSuffix(out, "\n") {
		t.Fatalf("RunSession(%q) = %q", lines, out)
	}
	return strings.Split(out, "\n")[:strings.Count(out, "\n")]
}

// answerTo returns the output for a line behind others.
func answerTo(t *testing.T, lines []string, line string) string {
	t.Helper()
	if len(lines) >= impl.MaxLines {
		t.Fatalf("there is no room for %q behind %q", line, lines)
	}
	out := answers(t, append(slices.Clone(lines), line))
	return out[len(lines)]
}

// checkAnswer reports an error unless a line behind others has an output.
func checkAnswer(t *testing.T, lines []string, line string, want string) {
	t.Helper()
	if got := answerTo(t, lines, line); got != want {
		t.Errorf("%q behind %q prints %q, want %q", line, lines, got, want)
	}
}

// questions are lines that change nothing.
var questions = []string{
	"rect 0", "rect 1", "rect 2", "rect 3", "rect 9", "rect 16", "rect x", "hit 0 0", "hit 99 99", "hit 100 0", "hit 10 10", "hit 3 40", "hit 99999 1", "hit x 0", "count",
	"remove 0", "remove 99", "remove -1", "size 10001 5", "size 5 -1", "add 0 leaf 5", "add 16 leaf 5 5", "add 0 ", "style 0 box", "style 99 row", "style 0 ",
	"", "help", "add", "add 0", "style 1", "remove", "remove 1 1", "size", "size 5", "size 5 5 5", "rect", "hit 5", "count 1", " count", "count ", "COUNT", "add\n0 leaf 5 5",
}

// edits are lines that change the tree or the screen, if they can.
var edits = []string{
	"add 0 leaf 10 5 grow 1", "add 0 leaf 30 50 shrink 2", "add 0 row gap 3 grow 1", "add 0 column pad 2", "add 0 block", "add 1 leaf 7 7", "add 1 row", "add 2 leaf 100 1", "add 3 block pad 50",
	"style 0 row gap 5", "style 0 column pad 1 justify 3", "style 0 block gap 2", "style 0 leaf 5 5", "style 1 column justify 1", "style 1 leaf 3 4", "style 2 leaf 0 0", "style 2 row pad 4",
	"remove 1", "remove 2", "remove 3", "size 50 20", "size 0 0", "size 10000 10000", "size 300 7", "size 100 100",
}

// sessions returns sessions of edits and questions, of up to a number of lines.
func sessions(many int, most int) [][]string {
	all := slices.Concat(edits, edits, questions)
	out := [][]string{nil, {}}
	for seed := range many {
		var lines []string
		for _, at := range mixed(seed, 1+seed%most, len(all)) {
			lines = append(lines, all[at])
		}
		out = append(out, lines)
	}
	return out
}

// model is the tree and the screen of a session.
type model struct {
	tree []impl.Box
	w    int
	h    int
}

// lineForms are the lines that are commands: a word between two spaces may be any one, and what is behind the space of BOX, too.
var lineForms = regexp.MustCompile(`(?s)^(?:(add|style) ([^ ]*) (.*)|(remove|rect) ([^ ]*)|(size|hit) ([^ ]*) ([^ ]*)|(count))$`)

// digits is a number.
var digits = regexp.MustCompile(`^(?:0|[1-9][0-9]{0,4})$`)

// numberIn returns the number that a word is, or -1.
func numberIn(word string) int {
	if !digits.MatchString(word) {
		return -1
	}
	n, _ := strconv.Atoi(word)
	return n
}

// keep makes a tree the tree of the model if there is one.
func (m *model) keep(tree []impl.Box, ok bool) string {
	if ok {
		m.tree = tree
		return "ok"
	}
	return "no"
}

// edit adds or styles a box.
func (m *model) edit(command string, at int, text string) string {
	one := treeOfText(text)
	if len(one) != 1 {
		return "no"
	}
	if command == "add" {
		return m.keep(impl.AddBox(m.tree, at, one[0]))
	}
	return m.keep(impl.StyleBox(m.tree, at, one[0]))
}

// answer executes a line, by the words of the specification.
func (m *model) answer(line string) string {
	f := lineForms.FindStringSubmatch(line)
	if f == nil {
		return "what"
	}
	switch command := f[1] + f[4] + f[6] + f[9]; command {
	case "add", "style":
		return m.edit(command, numberIn(f[2]), f[3])
	case "remove":
		return m.keep(impl.RemoveBox(m.tree, numberIn(f[5])))
	case "rect":
		r, ok := impl.RectOf(m.tree, m.w, m.h, numberIn(f[5]))
		if !ok {
			return "no"
		}
		return fmt.Sprintf("%d %d %d %d", r.X, r.Y, r.W, r.H)
	case "size":
		w, h := numberIn(f[7]), numberIn(f[8])
		if w < 0 || h < 0 || w > impl.MaxBox || h > impl.MaxBox {
			return "no"
		}
		m.w, m.h = w, h
		return "ok"
	case "hit":
		return fmt.Sprint(impl.HitBox(m.tree, m.w, m.h, numberIn(f[7]), numberIn(f[8])))
	}
	return fmt.Sprint(len(m.tree))
}

// outputOf returns the output of a session, by the words of the specification.
func outputOf(lines []string) string {
	m := &model{tree: []impl.Box{box(-1, impl.BoxBlock)}, w: impl.SessionSide, h: impl.SessionSide}
	out := ""
	for i, line := range lines {
		if i < impl.MaxLines {
			out += m.answer(line) + "\n"
		}
	}
	return out
}

// checkOutput reports an error unless a session has the output that the specification tells.
func checkOutput(t *testing.T, lines []string) {
	t.Helper()
	if out, want := impl.RunSession(lines), outputOf(lines); out != want {
		t.Errorf("RunSession(%q) = %q, want %q", lines, out, want)
	}
}
