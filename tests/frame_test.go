package tests

import (
	"fmt"
	"slices"
	"testing"

	"loop.example/flexlayout/impl"
)

// eachWork calls a function with costs and budgets: all small ones, jobs that cost nothing among them, and those at their limits.
func eachWork(call func(costs []int, budgets []int)) {
	for _, costs := range allCosts() {
		for _, budgets := range allBudgets() {
			call(costs, budgets)
		}
	}
}

// allCosts returns costs of jobs: none, all small ones, and as many and as large ones as possible.
func allCosts() [][]int {
	out := [][]int{
		nil, {impl.MaxCost}, {impl.MaxCost - 1, 1, 0}, {0, 0, 700, 0, 0, 301, 0},
		slices.Repeat([]int{impl.MaxCost}, impl.MaxJobs), slices.Repeat([]int{0}, impl.MaxJobs),
		{5, 0, 17, 400, 0, 0, 1, 1000, 33, 0, 250, 0}, {1000, 0, 999, 1, 0, 0, 0, 0, 0, 0, 0, 1},
	}
	rows([]int{0, 1, 2, 5}, 4, func(row []int) { out = append(out, row) })
	return out
}

// allBudgets returns budgets of frames: none, all small ones, and as many and as large ones as possible.
func allBudgets() [][]int {
	out := [][]int{
		nil, {impl.MaxCost}, {impl.MaxCost - 1}, {500, 0, 501, 0}, slices.Repeat([]int{142}, 7),
		slices.Repeat([]int{impl.MaxCost}, impl.MaxFrames), slices.Repeat([]int{0}, impl.MaxFrames),
		{0, 0, 422, 1, 0, 999, 33, 300, 0, 0, 1000, 1000}, {1000, 999, 1, 0, 0, 0, 0, 0, 0, 0, 0, 2},
	}
	rows([]int{0, 1, 3, 4}, 4, func(row []int) { out = append(out, row) })
	return out
}

// upTo returns the sums of all beginnings of a list, from the empty one on.
func upTo(list []int) []int {
	sums := []int{0}
	for i, n := range list {
		sums = append(sums, sums[i]+n)
	}
	return sums
}

// frameOf returns the first frame up to which the budgets are enough for some costs, or -1.
func frameOf(costs int, budgets []int) int {
	return slices.IndexFunc(upTo(budgets)[1:], func(sum int) bool { return sum >= costs })
}

// wrongLists returns lists in which there are too many numbers, or of which one is not in 0 to a greatest one.
func wrongLists(most int, greatest int) [][]int {
	out := [][]int{make([]int, most+1), slices.Repeat([]int{greatest}, most+1), make([]int, 10*most)}
	for _, n := range append([]int{-1, greatest + 1}, farNumbers...) {
		full := make([]int, most)
		full[most-1] = n
		out = append(out, []int{n}, []int{n, 0}, []int{0, n, 0}, full, []int{n, greatest, -n})
	}
	return out
}

func TestFramesOfAllWork(t *testing.T) {
	eachWork(func(costs []int, budgets []int) {
		what := fmt.Sprintf("(%v, %v)", costs, budgets)
		var finish, left []int
		over := -total(budgets)
		for _, sum := range upTo(costs)[1:] {
			finish = append(finish, frameOf(sum, budgets))
		}
		for _, cost := range costs {
			over += cost
			left = append(left, min(cost, max(0, over)))
		}
		checkRow(t, "FinishFrames"+what, impl.FinishFrames(costs, budgets), finish...)
		checkRow(t, "WorkLeft"+what, impl.WorkLeft(costs, budgets), left...)
		if n := impl.IdleTime(costs, budgets); n != max(0, -over) {
			t.Errorf("IdleTime%s = %d, want %d", what, n, max(0, -over))
		}
	})
}

func TestFramesExamples(t *testing.T) {
	for _, c := range []struct {
		what           string
		costs, budgets []int
		finish, left   []int
		idle           int
	}{
		{"two jobs", []int{10, 5}, []int{8, 8}, []int{1, 1}, []int{0, 0}, 1},
		{"jobs that need all", []int{10, 6}, []int{8, 8}, []int{1, 1}, []int{0, 0}, 0},
		{"a job in three frames", []int{20}, []int{8, 8, 8}, []int{2}, []int{0}, 4},
		{"a job that is not done", []int{3, 20, 7}, []int{8, 8}, []int{0, -1, -1}, []int{0, 7, 7}, 0},
		{"a job that costs nothing", []int{0}, []int{0}, []int{0}, []int{0}, 0},
		{"a job that costs nothing, without frames", []int{0}, nil, []int{-1}, []int{0}, 0},
		{"jobs that cost nothing, before one that needs a budget", []int{0, 0, 1}, []int{0, 0, 1, 4}, []int{0, 0, 2}, []int{0, 0, 0}, 4},
		{"jobs that cost nothing, behind a budget that is used up", []int{4, 0, 0}, []int{4, 9}, []int{0, 0, 0}, []int{0, 0, 0}, 9},
		{"jobs that cost nothing, behind one that is not done", []int{4, 0, 0}, []int{3, 0}, []int{-1, -1, -1}, []int{1, 0, 0}, 0},
		{"jobs that cost nothing, between others", []int{2, 0, 2, 0, 1}, []int{2, 0, 1, 1, 0, 2}, []int{0, 0, 3, 3, 5}, []int{0, 0, 0, 0, 0}, 1},
		{"no jobs", nil, []int{3, 4}, nil, nil, 7},
		{"no jobs and no frames", nil, nil, nil, nil, 0},
		{"jobs without frames", []int{3, 0, 4}, nil, []int{-1, -1, -1}, []int{3, 0, 4}, 0},
	} {
		checkRow(t, "FinishFrames of "+c.what, impl.FinishFrames(c.costs, c.budgets), c.finish...)
		checkRow(t, "WorkLeft of "+c.what, impl.WorkLeft(c.costs, c.budgets), c.left...)
		if n := impl.IdleTime(c.costs, c.budgets); n != c.idle {
			t.Errorf("IdleTime of %s = %d, want %d", c.what, n, c.idle)
		}
	}
}

func TestFramesNeededExamples(t *testing.T) {
	most := slices.Repeat([]int{impl.MaxCost}, impl.MaxJobs)
	for _, c := range []struct {
		costs  []int
		budget int
		want   int
	}{
		{nil, 1, 0}, {nil, impl.MaxCost, 0}, {[]int{0}, 1, 0}, {[]int{0, 0, 0}, impl.MaxCost, 0},
		{[]int{1}, 1, 1}, {[]int{1}, impl.MaxCost, 1}, {[]int{10, 5, 0, 20}, 10, 4}, {[]int{10, 5, 0, 20}, 35, 1}, {[]int{10, 5, 0, 20}, 34, 2},
		{[]int{7, 7}, 7, 2}, {[]int{7, 7}, 8, 2}, {[]int{7, 7}, 6, 3}, {[]int{7, 7, 0}, 14, 1}, {[]int{7, 7, 0}, 13, 2},
		{most, impl.MaxCost, impl.MaxFrames}, {most, impl.MaxCost - 1, impl.MaxFrames + 1}, {most, 1, impl.MaxJobs * impl.MaxCost},
	} {
		if n := impl.FramesNeeded(c.costs, c.budget); n != c.want {
			t.Errorf("FramesNeeded(%v, %d) = %d, want %d", c.costs, c.budget, n, c.want)
		}
	}
}

func TestFramesOfWrongArguments(t *testing.T) {
	check := func(costs []int, budgets []int) {
		what := fmt.Sprintf("(%v, %v)", costs, budgets)
		checkNil(t, "FinishFrames"+what, impl.FinishFrames(costs, budgets))
		checkNil(t, "WorkLeft"+what, impl.WorkLeft(costs, budgets))
		if n := impl.IdleTime(costs, budgets); n != -1 {
			t.Errorf("IdleTime%s = %d", what, n)
		}
	}
	checkNeeded := func(costs []int, budget int) {
		if n := impl.FramesNeeded(costs, budget); n != -1 {
			t.Errorf("FramesNeeded(%v, %d) = %d", costs, budget, n)
		}
	}
	for _, wrong := range wrongLists(impl.MaxJobs, impl.MaxCost) {
		for _, budgets := range [][]int{nil, {0}, {5, 6}, {impl.MaxCost}, {-1}} {
			check(wrong, budgets)
		}
		for _, budget := range []int{1, 10, impl.MaxCost, 0} {
			checkNeeded(wrong, budget)
		}
	}
	for _, wrong := range wrongLists(impl.MaxFrames, impl.MaxCost) {
		for _, costs := range [][]int{nil, {0}, {5, 6}, {impl.MaxCost}} {
			check(costs, wrong)
		}
	}
	for _, budget := range append([]int{0, -1, impl.MaxCost + 1}, farNumbers...) {
		for _, costs := range [][]int{nil, {0}, {0, 0}, {5, 6}, {impl.MaxCost}} {
			checkNeeded(costs, budget)
		}
	}
}

func TestFramesChangeNothing(t *testing.T) {
	for _, c := range [][2][]int{{{10, 5, 0, 20}, {8, 8, 10, 20}}, {{10, 5, 0, 20}, {8, 3}}, {{3, 4}, nil}, {{1, 1, 1}, {0, 1}}} {
		costs, budgets := c[0], c[1]
		what := fmt.Sprintf("(%v, %v)", costs, budgets)
		for _, f := range []func(costs []int, budgets []int) []int{
			impl.FinishFrames, impl.WorkLeft,
			func(costs []int, budgets []int) []int { return []int{impl.IdleTime(costs, budgets)} },
			func(costs []int, budgets []int) []int { return []int{impl.FramesNeeded(costs, 3)} },
		} {
			checkFresh(t, "a function of costs"+what, costs, func(costs []int) []int { return f(costs, budgets) })
			checkFresh(t, "a function of budgets"+what, budgets, func(budgets []int) []int { return f(costs, budgets) })
		}
	}
}

// P48
func TestJobsAreDoneInOrder(t *testing.T) {
	eachWork(func(costs []int, budgets []int) {
		finish := impl.FinishFrames(costs, budgets)
		if len(finish) != len(costs) {
			t.Fatalf("FinishFrames(%v, %v) = %v", costs, budgets, finish)
		}
		for i := 1; i < len(finish); i++ {
			if finish[i-1] < 0 && finish[i] >= 0 || finish[i] >= 0 && finish[i] < finish[i-1] || finish[i] < -1 {
				t.Errorf("FinishFrames(%v, %v) = %v", costs, budgets, finish)
			}
		}
	})
}

// P49
func TestFramesDoAsMuchAsTheyCan(t *testing.T) {
	eachWork(func(costs []int, budgets []int) {
		needed, given := upTo(costs), upTo(budgets)
		for job, frame := range impl.FinishFrames(costs, budgets) {
			if frame < -1 || frame >= len(budgets) {
				t.Fatalf("FinishFrames(%v, %v) has frame %d", costs, budgets, frame)
			}
			switch {
			case frame < 0 && len(budgets) > 0 && needed[job+1] <= given[len(budgets)]:
				t.Errorf("FinishFrames(%v, %v) does not do job %d", costs, budgets, job)
			case frame >= 0 && needed[job+1] > given[frame+1]:
				t.Errorf("FinishFrames(%v, %v) does job %d too soon", costs, budgets, job)
			// Nothing is before the first frame, not even for a job that costs nothing.
			case frame > 0 && needed[job+1] <= given[frame]:
				t.Errorf("FinishFrames(%v, %v) does job %d too late", costs, budgets, job)
			}
		}
	})
}

// halves returns two frames for each one, with the halves of its budget, the smaller one first or last.
func halves(budgets []int, smallerFirst bool) []int {
	var out []int
	for _, n := range budgets {
		smaller := n / 2
		if smallerFirst {
			out = append(out, smaller, n-smaller)
		} else {
			out = append(out, n-smaller, smaller)
		}
	}
	return out
}

// P50
func TestSlicesDoNotChangeWhatIsDone(t *testing.T) {
	eachWork(func(costs []int, budgets []int) {
		whole := budgets[:min(len(budgets), impl.MaxFrames/2)]
		want := impl.FinishFrames(costs, whole)
		for _, smallerFirst := range []bool{true, false} {
			half := halves(whole, smallerFirst)
			pairs := impl.FinishFrames(costs, half)
			for i, frame := range pairs {
				if frame >= 0 {
					pairs[i] = frame / 2
				}
			}
			checkRow(t, fmt.Sprintf("pairs of FinishFrames(%v, %v)", costs, half), pairs, want...)
			checkRow(t, fmt.Sprintf("WorkLeft(%v, %v)", costs, half), impl.WorkLeft(costs, half), impl.WorkLeft(costs, whole)...)
		}
	})
}

// P51
func TestWhatIsLeftIsNotDone(t *testing.T) {
	eachWork(func(costs []int, budgets []int) {
		left := impl.WorkLeft(costs, budgets)
		if len(left) != len(costs) || total(left) != max(0, total(costs)-total(budgets)) {
			t.Errorf("WorkLeft(%v, %v) = %v", costs, budgets, left)
		}
		for job, frame := range impl.FinishFrames(costs, budgets) {
			if frame >= 0 && left[job] != 0 {
				t.Errorf("WorkLeft(%v, %v) = %v, with job %d done", costs, budgets, left, job)
			}
		}
	})
}

// P52
func TestWorkCanBeResumed(t *testing.T) {
	eachWork(func(costs []int, budgets []int) {
		want := impl.WorkLeft(costs, budgets)
		for i := range len(budgets) + 1 {
			first := impl.WorkLeft(costs, budgets[:i])
			checkRow(t, fmt.Sprintf("WorkLeft(%v, %v)", first, budgets[i:]), impl.WorkLeft(first, budgets[i:]), want...)
		}
	})
}

// leftBehind returns the sum of what is left of jobs behind any number of frames, also more than there may be at once.
func leftBehind(costs []int, frames int, budget int) int {
	for frames > 0 {
		some := min(frames, impl.MaxFrames)
		costs = impl.WorkLeft(costs, slices.Repeat([]int{budget}, some))
		frames -= some
	}
	return total(costs)
}

// someBudgets are budgets for which frames are counted.
var someBudgets = []int{1, 2, 3, 4, 5, 7, 10, 99, 100, 500, 501, impl.MaxCost - 1, impl.MaxCost}

// P53
func TestAsManyFramesAreEnough(t *testing.T) {
	for _, costs := range allCosts() {
		for _, budget := range someBudgets {
			n := impl.FramesNeeded(costs, budget)
			if n < 0 {
				t.Fatalf("FramesNeeded(%v, %d) = %d", costs, budget, n)
			}
			if left := leftBehind(costs, n, budget); left != 0 {
				t.Errorf("FramesNeeded(%v, %d) = %d, with %d left", costs, budget, n, left)
			}
			if n > 0 && leftBehind(costs, n-1, budget) == 0 {
				t.Errorf("FramesNeeded(%v, %d) = %d, with nothing left before", costs, budget, n)
			}
			if n > 0 && n <= impl.MaxFrames && slices.Contains(impl.FinishFrames(costs, slices.Repeat([]int{budget}, n)), -1) {
				t.Errorf("FramesNeeded(%v, %d) = %d, with jobs that are not done", costs, budget, n)
			}
		}
	}
}

// P54
func TestLargerBudgetsNeedFewerFrames(t *testing.T) {
	for _, costs := range allCosts() {
		for budget := 1; budget <= impl.MaxCost; budget++ {
			n := impl.FramesNeeded(costs, budget)
			if (n == 0) != (total(costs) == 0) || n < 0 {
				t.Errorf("FramesNeeded(%v, %d) = %d", costs, budget, n)
			}
			if budget > 1 && n > impl.FramesNeeded(costs, budget-1) {
				t.Errorf("FramesNeeded(%v, %d) = %d, more than before", costs, budget, n)
			}
		}
	}
}

// P55
func TestFramesWorkOrAreIdle(t *testing.T) {
	eachWork(func(costs []int, budgets []int) {
		done := total(costs) - total(impl.WorkLeft(costs, budgets))
		if n := impl.IdleTime(costs, budgets); n+done != total(budgets) {
			t.Errorf("IdleTime(%v, %v) = %d, with %d done", costs, budgets, n, done)
		}
	})
}

// P152
func TestLargerBudgetsAreDoneSooner(t *testing.T) {
	eachWork(func(costs []int, budgets []int) {
		if len(budgets) == 0 || budgets[0] == impl.MaxCost {
			return
		}
		more := slices.Clone(budgets)
		more[0]++
		sooner := impl.FinishFrames(costs, more)
		for job, frame := range impl.FinishFrames(costs, budgets) {
			if frame >= 0 && (sooner[job] < 0 || sooner[job] > frame) {
				t.Errorf("FinishFrames(%v, %v) = %v, with job %d later", costs, more, sooner, job)
			}
		}
	})
}

// P153
func TestDoneJobsHaveNothingLeft(t *testing.T) {
	eachWork(func(costs []int, budgets []int) {
		finish := impl.FinishFrames(costs, budgets)
		for job, left := range impl.WorkLeft(costs, budgets) {
			if done := finish[job] >= 0 || costs[job] == 0; done != (left == 0) {
				t.Errorf("WorkLeft(%v, %v) has %d of job %d left", costs, budgets, left, job)
			}
		}
	})
}

// P154
func TestNobodyIsIdleWhileThereIsWork(t *testing.T) {
	eachWork(func(costs []int, budgets []int) {
		n := impl.IdleTime(costs, budgets)
		if total(impl.WorkLeft(costs, budgets)) > 0 && n != 0 {
			t.Errorf("IdleTime(%v, %v) = %d, with work left", costs, budgets, n)
		}
		if len(costs) == 0 && n != total(budgets) {
			t.Errorf("IdleTime(%v, %v) = %d, without jobs", costs, budgets, n)
		}
	})
}
