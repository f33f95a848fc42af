package tests

import (
	"fmt"
	"slices"
	"testing"

	"loop.example/flexlayout/impl"
)

// buffers returns buffers.
func buffers(front []int, back []int, version int) impl.Buffers {
	return impl.Buffers{Front: front, Back: back, Version: version}
}

// isZero reports whether buffers are the zero value.
func isZero(b impl.Buffers) bool {
	return b.Front == nil && b.Back == nil && b.Version == 0
}

// isLike reports whether two buffers have the same cells and the same version.
func isLike(a impl.Buffers, b impl.Buffers) bool {
	return slices.Equal(a.Front, b.Front) && slices.Equal(a.Back, b.Back) && a.Version == b.Version
}

// copyOf returns buffers with memory of their own.
func copyOf(b impl.Buffers) impl.Buffers {
	return buffers(slices.Clone(b.Front), slices.Clone(b.Back), b.Version)
}

// countedCells returns cells with numbers from a first one on.
func countedCells(many int, first int) []int {
	cells := make([]int, many)
	for i := range cells {
		cells[i] = first + i
	}
	return cells
}

// allBuffers returns valid buffers: all small ones, with numbers and versions at their limits, and the largest ones.
func allBuffers() []impl.Buffers {
	most := impl.MaxCells
	large := countedCells(most, impl.MaxValue-most+1)
	some := slices.Clone(large)
	some[0], some[7], some[most-1] = 0, -impl.MaxValue, impl.MaxValue-1
	pairs := [][2][]int{
		{large, large}, {large, some}, {some, countedCells(most, -impl.MaxValue)}, {make([]int, most), large},
		{{-impl.MaxValue}, {impl.MaxValue}}, {make([]int, most-1), countedCells(most-1, 0)},
	}
	byLength := map[int][][]int{}
	rows([]int{0, 3, -impl.MaxValue}, 3, func(row []int) { byLength[len(row)] = append(byLength[len(row)], row) })
	for many := range 4 {
		for _, front := range byLength[many] {
			for _, back := range byLength[many] {
				pairs = append(pairs, [2][]int{front, back})
			}
		}
	}
	var out []impl.Buffers
	for _, pair := range pairs {
		for _, version := range []int{0, 1, 500, impl.MaxVersion - 2, impl.MaxVersion - 1, impl.MaxVersion} {
			out = append(out, buffers(pair[0], pair[1], version))
		}
	}
	return out
}

// wrongBuffers returns buffers that are not valid.
func wrongBuffers() []impl.Buffers {
	many := make([]int, impl.MaxCells+1)
	out := []impl.Buffers{
		{}, buffers([]int{}, []int{}, 0), buffers(nil, nil, 5), buffers(many, many, 0), buffers(make([]int, 1000), make([]int, 1000), 0),
		buffers([]int{1}, nil, 0), buffers(nil, []int{1}, 0), buffers([]int{1, 2}, []int{1}, 0), buffers([]int{1}, []int{1, 2}, 0),
		buffers(many, many[1:], 0), buffers(many[1:], many, 0), buffers(many[2:], many[1:], 0),
	}
	for _, n := range append([]int{-1, impl.MaxVersion + 1}, farNumbers...) {
		out = append(out, buffers([]int{1, 2}, []int{1, 2}, n), buffers([]int{1, 2}, []int{2, 1}, n))
	}
	for _, n := range append([]int{-impl.MaxValue - 1, impl.MaxValue + 1}, farNumbers...) {
		for at := range 3 {
			good, bad := []int{1, 2, 3}, []int{1, 2, 3}
			bad[at] = n
			out = append(out, buffers(good, bad, 0), buffers(bad, good, 0), buffers(bad, bad, 0), buffers(bad[at:at+1], good[at:at+1], 0))
		}
		last := make([]int, impl.MaxCells)
		last[impl.MaxCells-1] = n
		out = append(out, buffers(last, many[1:], 0), buffers(many[1:], last, 0))
	}
	return out
}

// someValues are numbers that are written into cells.
var someValues = []int{0, 1, 3, impl.MaxValue, impl.MaxValue - 1, -impl.MaxValue}

// eachWrite calls a function with all buffers, each of their cells, and numbers that can be written there.
func eachWrite(call func(b impl.Buffers, at int, n int)) {
	for _, b := range allBuffers() {
		for at := range b.Front {
			for _, n := range someValues {
				call(b, at, n)
			}
		}
	}
}

// checkBuffers reports an error unless a result has the wanted cells and version, and true.
func checkBuffers(t *testing.T, what string, got impl.Buffers, ok bool, want impl.Buffers) {
	t.Helper()
	if !ok || !isLike(got, want) {
		t.Errorf("%s = %v, %v, want %v, true", what, got, ok, want)
	}
}

// checkNoBuffers reports an error unless a result is the zero value and false.
func checkNoBuffers(t *testing.T, what string, got impl.Buffers, ok bool) {
	t.Helper()
	if ok || !isZero(got) {
		t.Errorf("%s = %v, %v, want the zero value, false", what, got, ok)
	}
}

// mustBuffers returns a result, and ends the test if it is not valid.
func mustBuffers(t *testing.T, what string, b impl.Buffers, ok bool) impl.Buffers {
	t.Helper()
	if !ok || !impl.ValidBuffers(b) {
		t.Fatalf("%s = %v, %v", what, b, ok)
	}
	return b
}

// mustWrite returns buffers in which a number is written.
func mustWrite(t *testing.T, b impl.Buffers, at int, n int) impl.Buffers {
	t.Helper()
	out, ok := impl.WriteCell(b, at, n)
	return mustBuffers(t, fmt.Sprintf("WriteCell(%v, %d, %d)", b, at, n), out, ok)
}

// mustSwap returns buffers that are swapped.
func mustSwap(t *testing.T, b impl.Buffers) impl.Buffers {
	t.Helper()
	out, ok := impl.SwapBuffers(b)
	return mustBuffers(t, fmt.Sprintf("SwapBuffers(%v)", b), out, ok)
}

// mustDrop returns buffers without what is pending.
func mustDrop(t *testing.T, b impl.Buffers) impl.Buffers {
	t.Helper()
	out, ok := impl.DropBack(b)
	return mustBuffers(t, fmt.Sprintf("DropBack(%v)", b), out, ok)
}

// shown returns what ReadCell tells of all cells.
func shown(t *testing.T, b impl.Buffers) []int {
	t.Helper()
	var out []int
	for at := range b.Front {
		n, ok := impl.ReadCell(b, at)
		if !ok {
			t.Fatalf("ReadCell(%v, %d) is false", b, at)
		}
		out = append(out, n)
	}
	return out
}

// differing returns the places at which two lists of the same length differ.
func differing(a []int, b []int) []int {
	var out []int
	for i := range a {
		if a[i] != b[i] {
			out = append(out, i)
		}
	}
	return out
}

func TestBuffersOfAllKinds(t *testing.T) {
	for _, b := range allBuffers() {
		if !impl.ValidBuffers(b) {
			t.Errorf("ValidBuffers(%v) is false", b)
		}
		checkRow(t, fmt.Sprintf("ReadCell(%v)", b), shown(t, b), b.Front...)
		checkRow(t, fmt.Sprintf("PendingCells(%v)", b), impl.PendingCells(b), differing(b.Front, b.Back)...)
		out, ok := impl.DropBack(b)
		checkBuffers(t, fmt.Sprintf("DropBack(%v)", b), out, ok, buffers(b.Front, b.Front, b.Version))
		out, ok = impl.SwapBuffers(b)
		if b.Version < impl.MaxVersion {
			checkBuffers(t, fmt.Sprintf("SwapBuffers(%v)", b), out, ok, buffers(b.Back, b.Back, b.Version+1))
		} else {
			checkNoBuffers(t, fmt.Sprintf("SwapBuffers(%v)", b), out, ok)
		}
	}
	eachWrite(func(b impl.Buffers, at int, n int) {
		want := copyOf(b)
		want.Back[at] = n
		out, ok := impl.WriteCell(b, at, n)
		checkBuffers(t, fmt.Sprintf("WriteCell(%v, %d, %d)", b, at, n), out, ok, want)
	})
}

func TestTheLastVersion(t *testing.T) {
	b := buffers([]int{1, 2}, []int{1, 9}, impl.MaxVersion-1)
	last, ok := impl.SwapBuffers(b)
	checkBuffers(t, "SwapBuffers to the last version", last, ok, buffers([]int{1, 9}, []int{1, 9}, impl.MaxVersion))
	out, ok := impl.SwapBuffers(last)
	checkNoBuffers(t, "SwapBuffers behind the last version", out, ok)
	out, ok = impl.WriteCell(last, 0, 5)
	checkBuffers(t, "WriteCell in the last version", out, ok, buffers([]int{1, 9}, []int{5, 9}, impl.MaxVersion))
	out, ok = impl.DropBack(out)
	checkBuffers(t, "DropBack in the last version", out, ok, last)
}

func TestCellsThatAreNotThere(t *testing.T) {
	for _, b := range allBuffers() {
		many := len(b.Front)
		for _, at := range append([]int{-1, -many, many, many + 1, 1 << 32}, farNumbers...) {
			out, ok := impl.WriteCell(b, at, 1)
			checkNoBuffers(t, fmt.Sprintf("WriteCell(%v, %d, 1)", b, at), out, ok)
			if n, ok := impl.ReadCell(b, at); ok || n != 0 {
				t.Errorf("ReadCell(%v, %d) = %d, %v", b, at, n, ok)
			}
		}
		for _, n := range append([]int{-impl.MaxValue - 1, impl.MaxValue + 1}, farNumbers...) {
			for _, at := range []int{0, many - 1, many} {
				out, ok := impl.WriteCell(b, at, n)
				checkNoBuffers(t, fmt.Sprintf("WriteCell(%v, %d, %d)", b, at, n), out, ok)
			}
		}
	}
}

func TestWrongBuffers(t *testing.T) {
	for _, b := range wrongBuffers() {
		if impl.ValidBuffers(b) {
			t.Errorf("ValidBuffers(%v) is true", b)
		}
		for at := -1; at <= len(b.Front) && at < 20; at++ {
			out, ok := impl.WriteCell(b, at, 1)
			checkNoBuffers(t, fmt.Sprintf("WriteCell(%v, %d, 1)", b, at), out, ok)
			if n, ok := impl.ReadCell(b, at); ok || n != 0 {
				t.Errorf("ReadCell(%v, %d) = %d, %v", b, at, n, ok)
			}
		}
		out, ok := impl.SwapBuffers(b)
		checkNoBuffers(t, fmt.Sprintf("SwapBuffers(%v)", b), out, ok)
		out, ok = impl.DropBack(b)
		checkNoBuffers(t, fmt.Sprintf("DropBack(%v)", b), out, ok)
		checkNil(t, fmt.Sprintf("PendingCells(%v)", b), impl.PendingCells(b))
	}
}

// spoil writes into all memory of a list, also into its spare capacity.
func spoil(list []int) {
	for i := range list[:cap(list)] {
		list[:cap(list)][i] = -77
	}
}

// checkFreshBuffers reports an error if a call changes its argument, shares memory with it or between its results, or remembers them.
func checkFreshBuffers(t *testing.T, what string, given impl.Buffers, call func(b impl.Buffers) impl.Buffers) {
	t.Helper()
	whole := func() impl.Buffers {
		return buffers(given.Front[:cap(given.Front)], given.Back[:cap(given.Back)], given.Version)
	}
	copied := copyOf(whole())
	first := call(given)
	kept := copyOf(first)
	if !isLike(whole(), copied) {
		t.Errorf("%s changes its argument: %v, was %v", what, whole(), copied)
	}
	spoil(first.Front)
	if !slices.Equal(first.Back, kept.Back) {
		t.Errorf("%s has a front and a back that share memory", what)
	}
	spoil(first.Back)
	if !isLike(whole(), copied) {
		t.Errorf("%s shares memory with its argument", what)
	}
	if second := call(given); !isLike(second, kept) {
		t.Errorf("%s = %v the second time, was %v", what, second, kept)
	}
}

func TestBuffersChangeNothing(t *testing.T) {
	spare := []int{1, 2, 3, 7, 7, 7}
	for _, given := range []impl.Buffers{
		buffers([]int{1, 2, 3}, []int{4, 5, 3}, 8), buffers(slices.Clone(spare)[:3], slices.Clone(spare)[1:4], 8),
		buffers(spare[:3], spare[:3], 8), buffers(spare[:3], spare[3:], 8), buffers(spare[1:4], spare[:3], 8),
		buffers([]int{1, 2}, []int{4, 5}, impl.MaxVersion), buffers([]int{1, 2}, []int{4}, 0), {},
	} {
		for name, call := range map[string]func(b impl.Buffers) impl.Buffers{
			"WriteCell":    func(b impl.Buffers) impl.Buffers { out, _ := impl.WriteCell(b, 1, 9); return out },
			"SwapBuffers":  func(b impl.Buffers) impl.Buffers { out, _ := impl.SwapBuffers(b); return out },
			"DropBack":     func(b impl.Buffers) impl.Buffers { out, _ := impl.DropBack(b); return out },
			"PendingCells": func(b impl.Buffers) impl.Buffers { return impl.Buffers{Front: impl.PendingCells(b)} },
			"ReadCell":     func(b impl.Buffers) impl.Buffers { n, _ := impl.ReadCell(b, 1); return impl.Buffers{Version: n} },
			"ValidBuffers": func(b impl.Buffers) impl.Buffers { impl.ValidBuffers(b); return impl.Buffers{} },
		} {
			checkFreshBuffers(t, fmt.Sprintf("%s(%v)", name, given), given, call)
		}
	}
}

// P71
func TestBuffersCanBeExchanged(t *testing.T) {
	for _, b := range allBuffers() {
		if other := buffers(b.Back, b.Front, b.Version); !impl.ValidBuffers(b) || !impl.ValidBuffers(other) {
			t.Errorf("ValidBuffers(%v) and ValidBuffers(%v) are not both true", b, other)
		}
	}
}

// P72
func TestWritingDoesNotShow(t *testing.T) {
	eachWrite(func(b impl.Buffers, at int, n int) {
		what := fmt.Sprintf("ReadCell behind WriteCell(%v, %d, %d)", b, at, n)
		written := mustWrite(t, b, at, n)
		checkRow(t, what, shown(t, written), shown(t, b)...)
		if b.Version == impl.MaxVersion {
			return
		}
		if is, ok := impl.ReadCell(mustSwap(t, written), at); !ok || is != n {
			t.Errorf("%s and SwapBuffers = %d, %v", what, is, ok)
		}
	})
}

// P73
func TestCellsAreWrittenOneByOne(t *testing.T) {
	eachWrite(func(b impl.Buffers, at int, n int) {
		for other := range b.Front {
			if other == at {
				continue
			}
			const second = -5
			out := mustWrite(t, mustWrite(t, b, at, n), other, second)
			what := fmt.Sprintf("WriteCell(%v) of %d at %d and %d at %d", b, n, at, second, other)
			checkBuffers(t, what, out, true, mustWrite(t, mustWrite(t, b, other, second), at, n))
			if out.Back[at] != n || out.Back[other] != second {
				t.Errorf("%s = %v", what, out)
			}
		}
	})
}

// P74
func TestCellsAreReadFromTheFront(t *testing.T) {
	for _, b := range allBuffers() {
		checkRow(t, fmt.Sprintf("ReadCell(%v)", b), shown(t, b), b.Front...)
		checkRow(t, fmt.Sprintf("ReadCell behind DropBack(%v)", b), shown(t, mustDrop(t, b)), b.Front...)
	}
}

// P75
func TestSwapsShowEverythingAtOnce(t *testing.T) {
	for _, b := range allBuffers() {
		if b.Version == impl.MaxVersion {
			continue
		}
		out := mustSwap(t, b)
		if !slices.Equal(out.Front, b.Back) || len(impl.PendingCells(out)) != 0 || out.Version != b.Version+1 {
			t.Errorf("SwapBuffers(%v) = %v", b, out)
		}
	}
}

// P76
func TestSwappingAgainShowsNothingNew(t *testing.T) {
	for _, b := range allBuffers() {
		if b.Version > impl.MaxVersion-2 {
			continue
		}
		once := mustSwap(t, b)
		out, ok := impl.SwapBuffers(once)
		checkBuffers(t, fmt.Sprintf("SwapBuffers twice of %v", b), out, ok, buffers(once.Front, once.Back, b.Version+2))
	}
}

// P77
func TestDroppedWritesAreGone(t *testing.T) {
	for _, b := range allBuffers() {
		out := mustDrop(t, b)
		if len(impl.PendingCells(out)) != 0 || !slices.Equal(out.Front, b.Front) || out.Version != b.Version {
			t.Errorf("DropBack(%v) = %v", b, out)
		}
	}
}

// P78
func TestPendingCellsDiffer(t *testing.T) {
	for _, b := range allBuffers() {
		pending := impl.PendingCells(b)
		for at := range b.Front {
			if slices.Contains(pending, at) != (b.Front[at] != b.Back[at]) {
				t.Errorf("PendingCells(%v) = %v", b, pending)
			}
		}
		out := b
		for i, at := range pending {
			if i > 0 && pending[i-1] >= at {
				t.Errorf("PendingCells(%v) = %v", b, pending)
			}
			out = mustWrite(t, out, at, b.Front[at])
		}
		checkRow(t, fmt.Sprintf("PendingCells(%v) behind writing all", b), impl.PendingCells(out))
	}
}

// P162
func TestWrittenCellsArePending(t *testing.T) {
	eachWrite(func(b impl.Buffers, at int, n int) {
		before := impl.PendingCells(b)
		behind := impl.PendingCells(mustWrite(t, b, at, n))
		for other := range b.Front {
			want := slices.Contains(before, other)
			if other == at {
				want = n != b.Front[at]
			}
			if slices.Contains(behind, other) != want {
				t.Errorf("PendingCells behind WriteCell(%v, %d, %d) = %v", b, at, n, behind)
			}
		}
	})
}

// P163
func TestSwapsChangeWhatWasPending(t *testing.T) {
	for _, b := range allBuffers() {
		if b.Version < impl.MaxVersion {
			changed := differing(shown(t, b), shown(t, mustSwap(t, b)))
			checkRow(t, fmt.Sprintf("PendingCells(%v)", b), impl.PendingCells(b), changed...)
		}
	}
}

// P164
func TestDroppedWritesAreNotShown(t *testing.T) {
	for _, b := range allBuffers() {
		if b.Version == impl.MaxVersion {
			continue
		}
		out := mustSwap(t, mustDrop(t, b))
		checkRow(t, fmt.Sprintf("ReadCell behind DropBack and SwapBuffers(%v)", b), shown(t, out), shown(t, b)...)
		if out.Version != b.Version+1 {
			t.Errorf("SwapBuffers behind DropBack(%v) = %v", b, out)
		}
	}
}
