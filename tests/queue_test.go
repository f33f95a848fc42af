package tests

import (
	"fmt"
	"slices"
	"testing"

	"loop.example/flexlayout/impl"
)

// task returns a task.
func task(id int, rank int, age int) impl.Task {
	return impl.Task{Id: id, Rank: rank, Age: age}
}

// fullQueue returns as many tasks as possible, with ascending numbers up to the greatest one.
func fullQueue() []impl.Task {
	var out []impl.Task
	for i := range impl.MaxTasks {
		out = append(out, task(impl.MaxId-impl.MaxTasks+1+i, i*7%5*10, i*3%4))
	}
	return out
}

// queues returns valid queues: none, all small ones with equal distances and great ages among them, and full ones.
func queues() [][]impl.Task {
	alike, oldest, turning := fullQueue(), fullQueue(), fullQueue()
	for i := range impl.MaxTasks {
		alike[i].Rank, alike[i].Age = 4*i, i
		oldest[i].Rank, oldest[i].Age = impl.MaxRank, impl.MaxAge
		turning[i].Rank, turning[i].Age = impl.MaxRank-4*i, impl.MaxAge-i
	}
	lowest := fullQueue()
	for i := range lowest {
		lowest[i].Id = i
	}
	out := [][]impl.Task{nil, fullQueue(), alike, oldest, turning, lowest, lowest[:impl.MaxTasks-1]}
	kinds := []impl.Task{
		task(0, 0, 0), task(0, 4, 1), task(0, 5, 1), task(0, 3, 0), task(0, impl.MaxRank, impl.MaxAge),
		task(0, impl.MaxRank-4, impl.MaxAge-1), task(0, 0, impl.MaxAge), task(0, impl.MaxRank, 0),
	}
	ids := []int{0, 3, impl.MaxId}
	numbers := make([]int, len(kinds))
	for i := range numbers {
		numbers[i] = i
	}
	rows(numbers, len(ids), func(row []int) {
		list := make([]impl.Task, len(row))
		for i, kind := range row {
			list[i] = kinds[kind]
			// The last numbers are taken, so that the greatest one is in all rows.
			list[i].Id = ids[len(ids)-len(row)+i]
		}
		out = append(out, list)
	})
	return out
}

// wrongQueues returns queues that are not valid.
func wrongQueues() [][]impl.Task {
	good := []impl.Task{task(2, 5, 1), task(5, 5, 1), task(9, 5, 1)}
	out := [][]impl.Task{
		append([]impl.Task{task(0, 0, 0)}, fullQueue()...), make([]impl.Task, 2), make([]impl.Task, 1000),
		{good[0], good[0]}, {good[1], good[0]}, {good[0], good[2], good[1]}, {good[0], good[1], good[1]}, {good[0], good[0], good[1]},
		{task(impl.MaxId, 0, 0), task(0, 0, 0)}, append(fullQueue(), task(impl.MaxId, 0, 0)),
	}
	wrong := func(greatest int, set func(task *impl.Task, n int)) {
		for _, n := range append([]int{-1, greatest + 1}, farNumbers...) {
			for at := range good {
				list := slices.Clone(good)
				set(&list[at], n)
				out = append(out, list, list[at:at+1])
			}
			full := fullQueue()
			set(&full[impl.MaxTasks-1], n)
			out = append(out, full)
		}
	}
	wrong(impl.MaxId, func(task *impl.Task, n int) { task.Id = n })
	wrong(impl.MaxRank, func(task *impl.Task, n int) { task.Rank = n })
	wrong(impl.MaxAge, func(task *impl.Task, n int) { task.Age = n })
	return out
}

// someRanks are ranks with which tasks are pushed.
var someRanks = []int{0, 1, 4, 5, 30, impl.MaxRank - 4, impl.MaxRank}

// someIds returns numbers with which tasks are pushed: those of the tasks, those before and behind them, and the limits.
func someIds(list []impl.Task) []int {
	ids := []int{0, 1, 50, impl.MaxId - 1, impl.MaxId}
	for _, t := range list {
		ids = append(ids, max(0, t.Id-1), t.Id, min(t.Id+1, impl.MaxId))
	}
	slices.Sort(ids)
	return slices.Compact(ids)
}

// indexOf returns the place of a task with a number, or -1.
func indexOf(list []impl.Task, id int) int {
	return slices.IndexFunc(list, func(t impl.Task) bool { return t.Id == id })
}

// without returns a queue without the task at a place.
func without(list []impl.Task, at int) []impl.Task {
	return slices.Delete(slices.Clone(list), at, at+1)
}

// distance returns how far away a task is.
func distance(t impl.Task) int {
	return t.Rank - 4*t.Age
}

// nearest returns the place of the task that is taken next of at least one.
func nearest(list []impl.Task) int {
	best := 0
	for i, t := range list {
		if distance(t) < distance(list[best]) {
			best = i
		}
	}
	return best
}

// taken returns at least one task without the one that is taken next.
func taken(list []impl.Task) []impl.Task {
	out := without(list, nearest(list))
	for i := range out {
		if out[i].Age < impl.MaxAge {
			out[i].Age++
		}
	}
	return out
}

// pushed returns tasks with one that is pushed.
func pushed(list []impl.Task, id int, rank int) []impl.Task {
	out := slices.Clone(list)
	if at := indexOf(list, id); at >= 0 {
		out[at].Rank = min(out[at].Rank, rank)
		return out
	}
	out = append(out, task(id, rank, 0))
	slices.SortFunc(out, func(a, b impl.Task) int { return a.Id - b.Id })
	return out
}

// takesTask reports whether a task with a number can be pushed.
func takesTask(list []impl.Task, id int) bool {
	return len(list) < impl.MaxTasks || indexOf(list, id) >= 0
}

// eachPush calls a function with all queues, and with the numbers and ranks that can be pushed.
func eachPush(call func(list []impl.Task, id int, rank int)) {
	for _, list := range queues() {
		for _, id := range someIds(list) {
			for _, rank := range someRanks {
				if takesTask(list, id) {
					call(list, id, rank)
				}
			}
		}
	}
}

// checkTasks reports an error unless a result has the wanted tasks and true.
func checkTasks(t *testing.T, what string, got []impl.Task, ok bool, want []impl.Task) {
	t.Helper()
	if !ok || !slices.Equal(got, want) {
		t.Errorf("%s = %v, %v, want %v, true", what, got, ok, want)
	}
}

// checkNoTasks reports an error unless a result is nil and false.
func checkNoTasks(t *testing.T, what string, got []impl.Task, ok bool) {
	t.Helper()
	if ok || got != nil {
		t.Errorf("%s = %v, %v, want nil, false", what, got, ok)
	}
}

// mustTasks returns a result, and ends the test if it is no valid queue.
func mustTasks(t *testing.T, what string, list []impl.Task, ok bool) []impl.Task {
	t.Helper()
	if !ok || !impl.ValidTasks(list) {
		t.Fatalf("%s = %v, %v", what, list, ok)
	}
	return list
}

// mustPush returns a queue with a task that can be pushed.
func mustPush(t *testing.T, list []impl.Task, id int, rank int) []impl.Task {
	t.Helper()
	out, ok := impl.PushTask(list, id, rank)
	return mustTasks(t, fmt.Sprintf("PushTask(%v, %d, %d)", list, id, rank), out, ok)
}

// mustTake returns a queue without the next task.
func mustTake(t *testing.T, list []impl.Task) []impl.Task {
	t.Helper()
	out, ok := impl.TakeTask(list)
	return mustTasks(t, fmt.Sprintf("TakeTask(%v)", list), out, ok)
}

func TestTasksOfAllQueues(t *testing.T) {
	for _, list := range queues() {
		if !impl.ValidTasks(list) {
			t.Errorf("ValidTasks(%v) is false", list)
		}
		next, ok := impl.TakeTask(list)
		if len(list) == 0 {
			checkNoTasks(t, "TakeTask without tasks", next, ok)
			continue
		}
		if id := impl.NextTask(list); id != list[nearest(list)].Id {
			t.Errorf("NextTask(%v) = %d", list, id)
		}
		checkTasks(t, fmt.Sprintf("TakeTask(%v)", list), next, ok, taken(list))
		var order []int
		for left := list; len(left) > 0; left = taken(left) {
			order = append(order, left[nearest(left)].Id)
		}
		checkRow(t, fmt.Sprintf("TaskOrder(%v)", list), impl.TaskOrder(list), order...)
	}
}

func TestNoTasks(t *testing.T) {
	for _, none := range [][]impl.Task{nil, {}} {
		out, ok := impl.TakeTask(none)
		checkNoTasks(t, "TakeTask without tasks", out, ok)
		if !impl.ValidTasks(none) || impl.NextTask(none) != -1 || len(impl.TaskOrder(none)) != 0 {
			t.Error("ValidTasks, NextTask or TaskOrder without tasks")
		}
		out, ok = impl.PushTask(none, impl.MaxId, impl.MaxRank)
		checkTasks(t, "PushTask without tasks", out, ok, []impl.Task{task(impl.MaxId, impl.MaxRank, 0)})
	}
}

func TestTaskOrderExamples(t *testing.T) {
	for _, c := range []struct {
		what string
		list []impl.Task
		want []int
	}{
		{"ranks", []impl.Task{task(1, 30, 0), task(2, 10, 0), task(3, 20, 0)}, []int{2, 3, 1}},
		{"equal ranks", []impl.Task{task(3, 7, 0), task(5, 7, 0), task(8, 7, 0)}, []int{3, 5, 8}},
		{"equal ranks, one smaller", []impl.Task{task(3, 7, 0), task(5, 7, 0), task(8, 6, 0)}, []int{8, 3, 5}},
		{"an age that makes ranks equal", []impl.Task{task(3, 0, 0), task(5, 4, 1)}, []int{3, 5}},
		{"an age that makes ranks equal, first", []impl.Task{task(3, 4, 1), task(5, 0, 0)}, []int{3, 5}},
		{"an age that is not enough", []impl.Task{task(3, 5, 1), task(5, 0, 0)}, []int{5, 3}},
		{"an age that is more than enough", []impl.Task{task(3, 0, 0), task(5, 3, 1)}, []int{5, 3}},
		{"ages at their limits", []impl.Task{task(3, 50, 20), task(5, 0, 7), task(8, 0, 8)}, []int{8, 5, 3}},
		{"the greatest age, in which others overtake", []impl.Task{task(0, 50, 20), task(3, 46, 19), task(99, 0, 20)}, []int{99, 3, 0}},
		{"the greatest age, with time to come as near", []impl.Task{task(0, 50, 20), task(3, 42, 16), task(7, 0, 20), task(99, 0, 20)}, []int{7, 99, 0, 3}},
		{"the greatest age, with time to come nearer", []impl.Task{task(0, 50, 20), task(3, 41, 16), task(7, 0, 20), task(99, 0, 20)}, []int{7, 99, 3, 0}},
	} {
		checkRow(t, "TaskOrder of "+c.what, impl.TaskOrder(c.list), c.want...)
		if id := impl.NextTask(c.list); id != c.want[0] {
			t.Errorf("NextTask of %s = %d", c.what, id)
		}
	}
}

func TestTakeTaskStopsAtTheGreatestAge(t *testing.T) {
	list := []impl.Task{task(1, 50, 18), task(2, 50, 19), task(3, 50, 20), task(4, 0, 20), task(5, 0, 0)}
	out, ok := impl.TakeTask(list)
	checkTasks(t, "TakeTask", out, ok, []impl.Task{task(1, 50, 19), task(2, 50, 20), task(3, 50, 20), task(5, 0, 1)})
	out, ok = impl.TakeTask([]impl.Task{task(5, 0, 0)})
	checkTasks(t, "TakeTask of one task", out, ok, nil)
}

func TestPushTaskOfAllQueues(t *testing.T) {
	for _, list := range queues() {
		for _, id := range someIds(list) {
			for _, rank := range someRanks {
				what := fmt.Sprintf("PushTask(%v, %d, %d)", list, id, rank)
				out, ok := impl.PushTask(list, id, rank)
				if takesTask(list, id) {
					checkTasks(t, what, out, ok, pushed(list, id, rank))
				} else {
					checkNoTasks(t, what, out, ok)
				}
			}
		}
	}
}

func TestPushTaskInFullQueues(t *testing.T) {
	full := fullQueue()
	out, ok := impl.PushTask(full, 0, 0)
	checkNoTasks(t, "PushTask of one more than possible", out, ok)
	last := full[impl.MaxTasks-1]
	lower := slices.Clone(full)
	lower[impl.MaxTasks-1].Rank = 0
	out, ok = impl.PushTask(full, last.Id, 0)
	checkTasks(t, "PushTask of a task of a full queue", out, ok, lower)
	out, ok = impl.PushTask(full[1:], full[0].Id, 33)
	checkTasks(t, "PushTask of the last one possible", out, ok, append([]impl.Task{task(full[0].Id, 33, 0)}, full[1:]...))
}

func TestPushTaskOfWrongTasks(t *testing.T) {
	for _, list := range [][]impl.Task{nil, {task(0, 0, 0)}, {task(7, 3, 4), task(impl.MaxId, 2, 1)}, fullQueue()} {
		for _, wrong := range append([]int{-1}, farNumbers...) {
			for _, n := range []int{0, 7, impl.MaxId} {
				out, ok := impl.PushTask(list, wrong, min(n, impl.MaxRank))
				checkNoTasks(t, fmt.Sprintf("PushTask(%v, %d, %d)", list, wrong, n), out, ok)
				out, ok = impl.PushTask(list, n, wrong)
				checkNoTasks(t, fmt.Sprintf("PushTask(%v, %d, %d)", list, n, wrong), out, ok)
			}
		}
		out, ok := impl.PushTask(list, impl.MaxId+1, 0)
		checkNoTasks(t, "PushTask of a number too great", out, ok)
		out, ok = impl.PushTask(list, impl.MaxId, impl.MaxRank+1)
		checkNoTasks(t, "PushTask of a rank too great", out, ok)
	}
}

func TestTasksOfWrongQueues(t *testing.T) {
	for _, list := range wrongQueues() {
		if impl.ValidTasks(list) {
			t.Errorf("ValidTasks(%v) is true", list)
		}
		if id := impl.NextTask(list); id != -1 {
			t.Errorf("NextTask(%v) = %d", list, id)
		}
		checkNil(t, fmt.Sprintf("TaskOrder(%v)", list), impl.TaskOrder(list))
		out, ok := impl.TakeTask(list)
		checkNoTasks(t, fmt.Sprintf("TakeTask(%v)", list), out, ok)
		for _, id := range []int{0, 2, 5, impl.MaxId, -1} {
			out, ok := impl.PushTask(list, id, 3)
			checkNoTasks(t, fmt.Sprintf("PushTask(%v, %d, 3)", list, id), out, ok)
		}
	}
}

func TestTasksChangeNothing(t *testing.T) {
	numbered := func(ids ...int) []impl.Task {
		var out []impl.Task
		for _, id := range ids {
			out = append(out, task(id, 0, 0))
		}
		return out
	}
	check := func(what string, list []impl.Task, call func(list []impl.Task) []impl.Task) {
		checkFreshList(t, what, list, task(91, 1, 1), task(-77, -77, -77), call)
	}
	for _, list := range [][]impl.Task{nil, {task(5, 6, 7)}, {task(1, 9, 0), task(5, 6, 7), task(8, 9, 0)}, fullQueue(), fullQueue()[1:]} {
		check("ValidTasks", list, func(list []impl.Task) []impl.Task { return numbered(len(list))[:min(1, len(list))] })
		check("NextTask", list, func(list []impl.Task) []impl.Task { return numbered(impl.NextTask(list)) })
		check("TaskOrder", list, func(list []impl.Task) []impl.Task { return numbered(impl.TaskOrder(list)...) })
		check("TakeTask", list, func(list []impl.Task) []impl.Task { out, _ := impl.TakeTask(list); return out })
		for _, id := range someIds(list) {
			for _, rank := range []int{0, impl.MaxRank} {
				check(fmt.Sprintf("PushTask of %d", id), list, func(list []impl.Task) []impl.Task { out, _ := impl.PushTask(list, id, rank); return out })
			}
		}
	}
}

// P63
func TestTasksCanBeLeftOut(t *testing.T) {
	for _, list := range queues() {
		for at := range list {
			if less := without(list, at); !impl.ValidTasks(list) || !impl.ValidTasks(less) {
				t.Errorf("ValidTasks(%v) and ValidTasks(%v) are not both true", list, less)
			}
		}
	}
}

// P64
func TestTheNextTaskIsFirst(t *testing.T) {
	for _, list := range queues() {
		if len(list) == 0 {
			continue
		}
		at := indexOf(list, impl.NextTask(list))
		if at < 0 {
			t.Fatalf("NextTask(%v) = %d", list, impl.NextTask(list))
		}
		for _, other := range list {
			if distance(other) < distance(list[at]) || other.Id < list[at].Id && distance(other) == distance(list[at]) {
				t.Errorf("NextTask(%v) = %d, not %d", list, list[at].Id, other.Id)
			}
		}
	}
}

// P65
func TestTakenTasksAreGone(t *testing.T) {
	for _, list := range queues() {
		if len(list) == 0 {
			continue
		}
		next, out := impl.NextTask(list), mustTake(t, list)
		if len(out) != len(list)-1 || indexOf(out, next) >= 0 {
			t.Errorf("TakeTask(%v) = %v", list, out)
		}
		for _, old := range list {
			at := indexOf(out, old.Id)
			if at >= 0 && out[at] != task(old.Id, old.Rank, min(old.Age+1, impl.MaxAge)) || at < 0 && old.Id != next {
				t.Errorf("TakeTask(%v) = %v", list, out)
			}
		}
	}
}

// P66
func TestPushedTasksAreThereOnce(t *testing.T) {
	eachPush(func(list []impl.Task, id int, rank int) {
		out := mustPush(t, list, id, rank)
		at := indexOf(out, id)
		if at < 0 || out[at].Rank > rank {
			t.Fatalf("PushTask(%v, %d, %d) = %v", list, id, rank, out)
		}
		others := list
		if was := indexOf(list, id); was >= 0 {
			others = without(list, was)
		}
		checkTasks(t, fmt.Sprintf("all others behind PushTask(%v, %d, %d)", list, id, rank), without(out, at), true, others)
	})
}

// P67
func TestPushingTwiceIsPushingTheSmallerRank(t *testing.T) {
	eachPush(func(list []impl.Task, id int, rank int) {
		once := mustPush(t, list, id, rank)
		for _, second := range someRanks {
			out, ok := impl.PushTask(once, id, second)
			what := fmt.Sprintf("PushTask(%v, %d, %d and %d)", list, id, rank, second)
			checkTasks(t, what, out, ok, mustPush(t, list, id, min(rank, second)))
		}
	})
}

// P68
func TestAllTasksAreTaken(t *testing.T) {
	for _, list := range queues() {
		order := impl.TaskOrder(list)
		if len(list) > 0 && (len(order) == 0 || order[0] != impl.NextTask(list)) {
			t.Fatalf("TaskOrder(%v) = %v", list, order)
		}
		slices.Sort(order)
		var ids []int
		for _, other := range list {
			ids = append(ids, other.Id)
		}
		checkRow(t, fmt.Sprintf("the tasks of TaskOrder(%v)", list), order, ids...)
	}
}

// P69
func TestOrdersGoTaskByTask(t *testing.T) {
	for _, list := range queues() {
		if order := impl.TaskOrder(list); len(list) > 0 && len(order) > 0 {
			checkRow(t, fmt.Sprintf("TaskOrder behind TakeTask(%v)", list), impl.TaskOrder(mustTake(t, list)), order[1:]...)
		} else if len(list) > 0 {
			t.Errorf("TaskOrder(%v) is empty", list)
		}
	}
}

// P70
func TestOldTasksAreNotForgotten(t *testing.T) {
	for _, list := range queues() {
		order := impl.TaskOrder(list)
		for _, a := range list {
			for _, b := range list {
				first, second := slices.Index(order, a.Id), slices.Index(order, b.Id)
				if a.Age == b.Age && a.Rank < b.Rank && (first < 0 || first >= second) {
					t.Errorf("TaskOrder(%v) = %v, with %d behind %d", list, order, a.Id, b.Id)
				}
			}
		}
	}
}

// P159
func TestSingleTasksAreNext(t *testing.T) {
	for _, list := range queues() {
		for at, one := range list {
			if id := impl.NextTask(list[at : at+1]); id != one.Id {
				t.Errorf("NextTask(%v) = %d", list[at:at+1], id)
			}
			urgent := slices.Clone(list)
			urgent[at] = task(one.Id, 0, impl.MaxAge)
			first := slices.IndexFunc(urgent, func(other impl.Task) bool { return other.Rank == 0 && other.Age == impl.MaxAge })
			if id := impl.NextTask(urgent); id != urgent[first].Id {
				t.Errorf("NextTask(%v) = %d", urgent, id)
			}
		}
	}
}

// P160
func TestTakenTasksCanBePushedAgain(t *testing.T) {
	for _, list := range queues() {
		for _, rank := range someRanks {
			if len(list) == 0 {
				continue
			}
			id := impl.NextTask(list)
			out := mustPush(t, mustTake(t, list), id, rank)
			if at := indexOf(out, id); at < 0 || out[at] != task(id, rank, 0) || len(out) != len(list) {
				t.Errorf("PushTask(.., %d, %d) behind TakeTask(%v) = %v", id, rank, list, out)
			}
		}
	}
}

// P161
func TestTheOrderOfPushingDoesNotMatter(t *testing.T) {
	eachPush(func(list []impl.Task, id int, rank int) {
		for _, other := range []int{0, 3, 5, impl.MaxId - impl.MaxTasks, impl.MaxId} {
			once := mustPush(t, list, id, rank)
			if other == id || !takesTask(list, other) || !takesTask(once, other) {
				continue
			}
			for _, second := range []int{0, 5, impl.MaxRank} {
				out, ok := impl.PushTask(mustPush(t, list, other, second), id, rank)
				checkTasks(t, fmt.Sprintf("PushTask(%v, %d and %d)", list, other, id), out, ok, mustPush(t, once, other, second))
			}
		}
	})
}
