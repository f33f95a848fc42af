package tests

import (
	"fmt"
	"slices"
	"testing"

	"loop.example/flexlayout/impl"
)

// mixed returns a list of numbers from 0 to below another one, a different one for each seed.
func mixed(seed int, length int, below int) []int {
	out := make([]int, length)
	state := uint64(seed)*2862933555777941757 + 3037000493
	for i := range out {
		state = state*6364136223846793005 + 1442695040888963407
		out[i] = int(state>>33) % below
	}
	return out
}

// rectLists returns lists of none to a greatest number of rectangles: all of up to two of the given ones, and many longer ones.
func rectLists(from []impl.Rect, greatest int) [][]impl.Rect {
	out := [][]impl.Rect{nil, {}}
	for _, a := range from {
		out = append(out, []impl.Rect{a})
		for _, b := range from {
			out = append(out, []impl.Rect{a, b})
		}
	}
	for seed := range 300 * (greatest - 2) {
		out = append(out, picked(from, mixed(seed, 3+seed%(greatest-2), len(from))))
	}
	return out
}

// picked returns the rectangles with numbers.
func picked(from []impl.Rect, numbers []int) []impl.Rect {
	var out []impl.Rect
	for _, at := range numbers {
		out = append(out, from[at])
	}
	return out
}

// paintRects are rectangles with and without points, which overlap, touch, lie in each other or apart.
func paintRects() []impl.Rect {
	out := append(smallRects([]int{-1, 1}, []int{0, 1, 2}), smallRects([]int{0, 2}, []int{1, 3})...)
	return append(out, rect(0, 0, 9, 1), rect(0, 0, 1, 9), rect(-3, -3, 7, 7), rect(20, 20, 2, 2), rect(0, 0, impl.MaxPaintSide, impl.MaxPaintSide))
}

// paintLists are lists of rectangles whose points are counted.
func paintLists() [][]impl.Rect {
	return rectLists(paintRects(), impl.MaxPaint)
}

// eachChange calls a function with all pairs of lists of the same length, up to a greatest number of rectangles, which differ at none, some and all numbers.
func eachChange(call func(a []impl.Rect, b []impl.Rect)) {
	from := append(paintRects(), edgeRects()...)
	call(nil, nil)
	call(nil, []impl.Rect{})
	for _, a := range from {
		for _, b := range from {
			call([]impl.Rect{a}, []impl.Rect{b})
		}
	}
	for seed := range 4000 {
		length := 1 + seed%impl.MaxBoxes
		a, b := picked(from, mixed(seed, length, len(from))), picked(from, mixed(seed+4000, length, len(from)))
		for at, n := range mixed(seed+8000, length, 4) {
			// Most rectangles are the same, or the lists would differ everywhere.
			if n > 0 && seed%3 > 0 || n > 2 {
				b[at] = a[at]
			}
		}
		call(a, b)
	}
}

// wrongRectLists returns lists of rectangles of which one is wrong, or which are too many.
func wrongRectLists(most int) [][]impl.Rect {
	out := [][]impl.Rect{make([]impl.Rect, most+1), slices.Repeat([]impl.Rect{rect(1, 2, 3, 4)}, most+1), make([]impl.Rect, 1000)}
	for _, wrong := range wrongRects() {
		for at := range 3 {
			list := []impl.Rect{rect(0, 0, 5, 5), rect(1, 1, 5, 5), rect(9, 9, 1, 1)}
			list[at] = wrong
			out = append(out, list, list[at:at+1])
		}
		full := make([]impl.Rect, most)
		full[most-1] = wrong
		out = append(out, full)
	}
	return out
}

// hullAll returns the least rectangle around rectangles.
func hullAll(list []impl.Rect) impl.Rect {
	left, top, right, bottom := list[0].X, list[0].Y, list[0].X+list[0].W, list[0].Y+list[0].H
	for _, r := range list {
		left, top, right, bottom = min(left, r.X), min(top, r.Y), max(right, r.X+r.W), max(bottom, r.Y+r.H)
	}
	return rect(left, top, right-left, bottom-top)
}

// differingRects returns the rectangles of both lists at which these differ.
func differingRects(a []impl.Rect, b []impl.Rect) []impl.Rect {
	var out []impl.Rect
	for i := range a {
		if a[i] != b[i] {
			out = append(out, a[i], b[i])
		}
	}
	return out
}

// checkNoDamage reports an error unless there is no damage between two lists.
func checkNoDamage(t *testing.T, a []impl.Rect, b []impl.Rect) {
	t.Helper()
	r, ok := impl.DamageOf(a, b)
	checkNoRect(t, fmt.Sprintf("DamageOf(%v, %v)", a, b), r, ok)
}

// checkNoChanges reports an error unless two lists are no arguments.
func checkNoChanges(t *testing.T, a []impl.Rect, b []impl.Rect) {
	t.Helper()
	checkNil(t, fmt.Sprintf("ChangedRects(%v, %v)", a, b), impl.ChangedRects(a, b))
	checkNoDamage(t, a, b)
}

func TestDamageOfAllChanges(t *testing.T) {
	damaged, tooLarge := 0, 0
	eachChange(func(a []impl.Rect, b []impl.Rect) {
		all := differingRects(a, b)
		if len(all) == 0 || !impl.ValidRect(hullAll(all)) {
			checkNoDamage(t, a, b)
			tooLarge += min(len(all), 1)
			return
		}
		damaged++
		r, ok := impl.DamageOf(a, b)
		checkRect(t, fmt.Sprintf("DamageOf(%v, %v)", a, b), r, ok, hullAll(all))
	})
	if damaged < 1000 || tooLarge < 1000 {
		t.Errorf("%d changes have a damage, and %d a damage that is too large", damaged, tooLarge)
	}
}

func TestChangedRectsExamples(t *testing.T) {
	a := []impl.Rect{rect(0, 0, 5, 5), rect(1, 1, 2, 2), rect(3, 3, 0, 0), rect(9, 9, 1, 1)}
	for _, c := range []struct {
		what   string
		change func(b []impl.Rect)
		want   []int
		damage impl.Rect
	}{
		{"nothing", func(b []impl.Rect) {}, nil, impl.Rect{}},
		{"X", func(b []impl.Rect) { b[1].X = 4 }, []int{1}, rect(1, 1, 5, 2)},
		{"Y", func(b []impl.Rect) { b[1].Y = -4 }, []int{1}, rect(1, -4, 2, 7)},
		{"W", func(b []impl.Rect) { b[1].W = 0 }, []int{1}, rect(1, 1, 2, 2)},
		{"H", func(b []impl.Rect) { b[1].H = 3 }, []int{1}, rect(1, 1, 2, 3)},
		{"the place of a rectangle without points", func(b []impl.Rect) { b[2].X = 40 }, []int{2}, rect(3, 3, 37, 0)},
		{"the width of a rectangle without points", func(b []impl.Rect) { b[2].W = 1 }, []int{2}, rect(3, 3, 1, 0)},
		{"the first and the last one", func(b []impl.Rect) { b[0].W, b[3].H = 6, 2 }, []int{0, 3}, rect(0, 0, 10, 11)},
		{"two that are exchanged", func(b []impl.Rect) { b[1], b[3] = b[3], b[1] }, []int{1, 3}, rect(1, 1, 9, 9)},
		{"all", func(b []impl.Rect) { clear(b[1:]); b[0].H = 1 }, []int{0, 1, 2, 3}, rect(0, 0, 10, 10)},
	} {
		b := slices.Clone(a)
		c.change(b)
		checkRow(t, "ChangedRects with a change of "+c.what, impl.ChangedRects(a, b), c.want...)
		r, ok := impl.DamageOf(a, b)
		if c.want == nil {
			checkNoRect(t, "DamageOf with a change of "+c.what, r, ok)
		} else {
			checkRect(t, "DamageOf with a change of "+c.what, r, ok, c.damage)
		}
	}
}

func TestDamageOfAtTheLimits(t *testing.T) {
	place, size := impl.MaxPlace, impl.MaxSize
	for _, c := range []struct {
		a, b impl.Rect
		want impl.Rect
		ok   bool
	}{
		{rect(-place, 0, 1, 1), rect(place-1, 0, 1, 1), rect(-place, 0, size, 1), true},
		{rect(-place, 0, 1, 1), rect(place, 0, 0, 0), rect(-place, 0, size, 1), true},
		{rect(-place, 0, 1, 1), rect(place, 0, 1, 1), impl.Rect{}, false},
		{rect(-place, 0, 1, 1), rect(place, 0, 1, 0), impl.Rect{}, false},
		{rect(0, -place, 1, 1), rect(0, place-1, 1, 1), rect(0, -place, 1, size), true},
		{rect(0, -place, 1, 1), rect(0, place, 1, 1), impl.Rect{}, false},
		{rect(place, place, size, size), rect(place, place, 0, 0), rect(place, place, size, size), true},
		{rect(place, place, size, size), rect(place-1, place, 0, 0), impl.Rect{}, false},
		{rect(place, place, size, size), rect(place, place-1, 0, 0), impl.Rect{}, false},
	} {
		for _, list := range [][2][]impl.Rect{{{c.a}, {c.b}}, {{c.b}, {c.a}}, {{c.a, c.b}, {c.b, c.a}}, {{rect(-place, -place, 0, 0), c.a}, {rect(-place, -place, 0, 0), c.b}}} {
			r, ok := impl.DamageOf(list[0], list[1])
			if r != c.want || ok != c.ok {
				t.Errorf("DamageOf(%v, %v) = %v, %v, want %v, %v", list[0], list[1], r, ok, c.want, c.ok)
			}
		}
	}
	full := make([]impl.Rect, impl.MaxBoxes)
	other := slices.Clone(full)
	other[impl.MaxBoxes-1].W = 3
	checkRow(t, "ChangedRects of full lists", impl.ChangedRects(full, other), impl.MaxBoxes-1)
	checkNoChanges(t, append(full, rect(0, 0, 1, 1)), append(other, rect(0, 0, 1, 1)))
}

func TestDamageOfWrongArguments(t *testing.T) {
	for _, wrong := range wrongRectLists(impl.MaxBoxes) {
		checkNoChanges(t, wrong, wrong)
		good := make([]impl.Rect, len(wrong))
		for i := range good {
			good[i] = rect(i, i, 1, 1)
		}
		checkNoChanges(t, wrong, good)
		checkNoChanges(t, good, wrong)
		changed := slices.Clone(wrong)
		changed[0] = rect(7, 7, 7, 7)
		checkNoChanges(t, wrong, changed)
	}
	list := []impl.Rect{rect(0, 0, 5, 5), rect(1, 1, 5, 5), rect(9, 9, 1, 1)}
	for less := range list {
		checkNoChanges(t, list, list[:less])
		checkNoChanges(t, list[:less], list)
		checkNoChanges(t, list, list[3-less:])
		checkNoChanges(t, paintRects()[3:3+less], list)
	}
}

func TestDamageChangesNothing(t *testing.T) {
	other := []impl.Rect{rect(4, 4, 4, 4), rect(1, 1, 5, 5), rect(6, 6, 6, 6)}
	for _, list := range [][]impl.Rect{{rect(0, 0, 5, 5), rect(1, 1, 5, 5), rect(9, 9, 1, 1)}, other, {}} {
		for name, call := range map[string]func(list []impl.Rect) []impl.Rect{
			"ChangedRects":          func(list []impl.Rect) []impl.Rect { return numbered(impl.ChangedRects(list, other)) },
			"ChangedRects backward": func(list []impl.Rect) []impl.Rect { return numbered(impl.ChangedRects(other, list)) },
			"DamageOf":              func(list []impl.Rect) []impl.Rect { r, _ := impl.DamageOf(list, other); return []impl.Rect{r} },
			"DamageOf backward":     func(list []impl.Rect) []impl.Rect { r, _ := impl.DamageOf(other, list); return []impl.Rect{r} },
			"PaintArea":             func(list []impl.Rect) []impl.Rect { return numbered([]int{impl.PaintArea(list)}) },
			"JoinPaint":             func(list []impl.Rect) []impl.Rect { out, _ := impl.JoinPaint(list); return out },
		} {
			checkFreshList(t, fmt.Sprintf("%s(%v)", name, list), list, rect(1, 1, 1, 1), rect(-77, -77, -77, -77), call)
		}
		first := impl.ChangedRects(list, other)
		kept := slices.Clone(first)
		spoil(first)
		checkRow(t, fmt.Sprintf("ChangedRects(%v) again", list), impl.ChangedRects(list, other), kept...)
	}
}

// numbered returns a rectangle for each number.
func numbered(numbers []int) []impl.Rect {
	var out []impl.Rect
	for _, n := range numbers {
		out = append(out, rect(n, n, n, n))
	}
	return out
}

// P117
func TestChangedRectsDiffer(t *testing.T) {
	eachChange(func(a []impl.Rect, b []impl.Rect) {
		changed := impl.ChangedRects(a, b)
		if !slices.IsSorted(changed) || len(slices.Compact(slices.Clone(changed))) != len(changed) {
			t.Errorf("ChangedRects(%v, %v) = %v, not ascending", a, b, changed)
		}
		for at := range a {
			if slices.Contains(changed, at) != (a[at] != b[at]) {
				t.Errorf("ChangedRects(%v, %v) = %v, wrong at %d", a, b, changed, at)
			}
		}
		if len(changed) > 0 && (changed[0] < 0 || slices.Max(changed) >= len(a)) {
			t.Errorf("ChangedRects(%v, %v) = %v, beyond the lists", a, b, changed)
		}
		checkRow(t, fmt.Sprintf("ChangedRects(%v, %v)", b, a), impl.ChangedRects(b, a), changed...)
		checkRow(t, fmt.Sprintf("ChangedRects(%v, %v)", a, a), impl.ChangedRects(a, a))
	})
}

// P118
func TestDamageHasAllThatChanges(t *testing.T) {
	eachChange(func(a []impl.Rect, b []impl.Rect) {
		damage, ok := impl.DamageOf(a, b)
		if back, backOk := impl.DamageOf(b, a); back != damage || backOk != ok {
			t.Errorf("DamageOf(%v, %v) = %v, %v, but the other way round %v, %v", a, b, damage, ok, back, backOk)
		}
		for _, r := range differingRects(a, b) {
			if ok && !isInside(r, damage) {
				t.Errorf("DamageOf(%v, %v) = %v, without %v", a, b, damage, r)
			}
		}
	})
}

// P119
func TestDamageIsNoLargerThanNeeded(t *testing.T) {
	eachChange(func(a []impl.Rect, b []impl.Rect) {
		damage, ok := impl.DamageOf(a, b)
		if !ok {
			return
		}
		var left, top, right, bottom []int
		for _, r := range differingRects(a, b) {
			left, top, right, bottom = append(left, r.X), append(top, r.Y), append(right, r.X+r.W), append(bottom, r.Y+r.H)
		}
		if !slices.Contains(left, damage.X) || !slices.Contains(top, damage.Y) ||
			!slices.Contains(right, damage.X+damage.W) || !slices.Contains(bottom, damage.Y+damage.H) {
			t.Errorf("DamageOf(%v, %v) = %v", a, b, damage)
		}
	})
}
