package tests

import (
	"fmt"
	"math"
	"slices"
	"testing"

	"loop.example/flexlayout/impl"
)

// scroll is a view in a content, at a place, and a part of the content.
type scroll struct {
	content int
	view    int
	at      int
	low     int
	high    int
}

// into returns ScrollInto.
func (s scroll) into() int {
	return impl.ScrollInto(s.content, s.view, s.at, s.low, s.high)
}

// end returns the greatest place of the view.
func (s scroll) end() int {
	return max(0, s.content-s.view)
}

// shows reports whether the whole part can be seen from a place.
func (s scroll) shows(place int) bool {
	return place <= s.low && s.high <= place+s.view
}

// isLarge reports whether the part is larger than the view.
func (s scroll) isLarge() bool {
	return s.high-s.low > s.view
}

// want returns the place of the view that shows the part, by the words of the specification.
func (s scroll) want() int {
	behind := s.high - s.view
	switch {
	case s.shows(s.at):
		return s.at
	case behind > s.at && behind <= s.low:
		return clamped(s.content, s.view, behind)
	}
	return clamped(s.content, s.view, s.low)
}

// clamped returns the nearest place of a view in a content: any other one is farther away.
func clamped(content int, view int, at int) int {
	if at <= 0 || view >= content {
		return 0
	}
	if view+at > content {
		return content - view
	}
	return at
}

// eachSmallScroll calls a function with all small contents, views, places and parts.
func eachSmallScroll(call func(s scroll)) {
	for content := range 9 {
		for view := range 11 {
			for at := range max(0, content-view) + 1 {
				for high := range content + 1 {
					for low := range high + 1 {
						call(scroll{content, view, at, low, high})
					}
				}
			}
		}
	}
}

// ends returns some places from 0 to an end: both ends, those beside them, and those around others in between.
func ends(end int, others ...int) []int {
	var out []int
	for _, n := range append(others, 0, end) {
		for _, place := range []int{n - 1, n, n + 1} {
			if 0 <= place && place <= end {
				out = append(out, place)
			}
		}
	}
	slices.Sort(out)
	return slices.Compact(out)
}

// eachScroll calls a function with all small contents, views, places and parts, and with large ones.
func eachScroll(call func(s scroll)) {
	eachSmallScroll(call)
	for _, content := range []int{1000, impl.MaxSize - 1, impl.MaxSize} {
		for _, view := range []int{0, 1, 300, impl.MaxSize - 1, impl.MaxSize} {
			end := max(0, content-view)
			for _, at := range ends(end, 500) {
				for _, high := range ends(content, at, min(at+view, content)) {
					for _, low := range ends(high, at, max(0, high-view)) {
						call(scroll{content, view, at, low, high})
					}
				}
			}
		}
	}
}

// eachClamp calls a function with contents, views and places of all kinds, which are valid.
func eachClamp(call func(content int, view int, at int)) {
	sizes := []int{0, 1, 2, 3, 7, 8, 1000, impl.MaxSize - 1, impl.MaxSize}
	places := []int{-impl.MaxSize, 1 - impl.MaxSize, -1, 0, 1, 2, 3, 4, 5, 6, 7, 8, 9, 991, 992, 999, 1000, 1001, impl.MaxSize - 1, impl.MaxSize}
	for _, content := range sizes {
		for _, view := range sizes {
			for _, at := range places {
				call(content, view, at)
			}
		}
	}
}

// wrongPlaces are no places that can be clamped.
var wrongPlaces = append([]int{-impl.MaxSize - 1, impl.MaxSize + 1}, farNumbers...)

// wrongLengths are no sizes of a content or a view.
var wrongLengths = append([]int{-1, impl.MaxSize + 1}, farNumbers...)

// checkPlace reports an error unless a place is the wanted one.
func checkPlace(t *testing.T, what string, got int, want int) {
	t.Helper()
	if got != want {
		t.Errorf("%s = %d, want %d", what, got, want)
	}
}

func TestClampScrollExamples(t *testing.T) {
	for _, c := range []struct{ content, view, at, want int }{
		{100, 30, 69, 69}, {100, 30, 70, 70}, {100, 30, 71, 70}, {100, 30, 0, 0}, {100, 30, -1, 0}, {100, 30, 1, 1},
		{30, 30, 1, 0}, {30, 30, 0, 0}, {31, 30, 5, 1}, {29, 30, 5, 0}, {29, 30, -5, 0}, {0, 30, 5, 0}, {0, 0, 5, 0}, {0, 0, -5, 0},
		{100, 0, 100, 100}, {100, 0, 101, 100}, {100, 0, 99, 99}, {0, impl.MaxSize, impl.MaxSize, 0}, {0, impl.MaxSize, -impl.MaxSize, 0},
		{impl.MaxSize, 0, impl.MaxSize, impl.MaxSize}, {impl.MaxSize, 0, -impl.MaxSize, 0}, {impl.MaxSize, impl.MaxSize, impl.MaxSize, 0},
	} {
		checkPlace(t, fmt.Sprintf("ClampScroll(%d, %d, %d)", c.content, c.view, c.at), impl.ClampScroll(c.content, c.view, c.at), c.want)
	}
}

func TestClampScrollIsNearest(t *testing.T) {
	for content := range 9 {
		for view := range 11 {
			for at := -12; at <= 12; at++ {
				got := impl.ClampScroll(content, view, at)
				for place := 0; place <= max(0, content-view); place++ {
					if max(place-at, at-place) < max(got-at, at-got) {
						t.Errorf("ClampScroll(%d, %d, %d) = %d, but %d is nearer", content, view, at, got, place)
					}
				}
			}
		}
	}
}

func TestClampScrollOfWrongArguments(t *testing.T) {
	for _, wrong := range wrongLengths {
		for _, at := range []int{0, 5, impl.MaxSize, -impl.MaxSize} {
			checkPlace(t, fmt.Sprintf("ClampScroll(%d, 30, %d)", wrong, at), impl.ClampScroll(wrong, 30, at), -1)
			checkPlace(t, fmt.Sprintf("ClampScroll(100, %d, %d)", wrong, at), impl.ClampScroll(100, wrong, at), -1)
			checkPlace(t, fmt.Sprintf("ClampScroll(%d, %d, %d)", wrong, wrong, at), impl.ClampScroll(wrong, wrong, at), -1)
		}
	}
	for _, wrong := range wrongPlaces {
		for _, size := range []int{0, 100, impl.MaxSize} {
			checkPlace(t, fmt.Sprintf("ClampScroll(%d, 30, %d)", size, wrong), impl.ClampScroll(size, 30, wrong), -1)
			checkPlace(t, fmt.Sprintf("ClampScroll(100, %d, %d)", size, wrong), impl.ClampScroll(100, size, wrong), -1)
		}
	}
}

func TestScrollIntoOfAllParts(t *testing.T) {
	eachScroll(func(s scroll) {
		if place := s.into(); place != s.want() {
			t.Errorf("ScrollInto of %+v = %d, want %d", s, place, s.want())
		}
	})
}

func TestScrollIntoExamples(t *testing.T) {
	for _, c := range []struct {
		what string
		s    scroll
		want int
	}{
		{"a part that is seen", scroll{100, 30, 20, 25, 45}, 20},
		{"a part from edge to edge", scroll{100, 30, 20, 20, 50}, 20},
		{"a part 1 behind the view", scroll{100, 30, 20, 25, 51}, 21},
		{"a part 1 before the view", scroll{100, 30, 20, 19, 45}, 19},
		{"a part far behind", scroll{100, 30, 0, 80, 90}, 60},
		{"a part far before", scroll{100, 30, 70, 5, 10}, 5},
		{"the last part", scroll{100, 30, 0, 95, 100}, 70},
		{"the first part", scroll{100, 30, 70, 0, 5}, 0},
		{"a part as large as the view, behind", scroll{100, 30, 0, 40, 70}, 40},
		{"a part as large as the view, before", scroll{100, 30, 60, 40, 70}, 40},
		{"a part 1 larger than the view, behind", scroll{100, 30, 0, 40, 71}, 40},
		{"a part 1 larger than the view, before", scroll{100, 30, 60, 40, 71}, 40},
		{"a part around the view", scroll{100, 30, 50, 40, 90}, 40},
		{"a larger part that begins with the view", scroll{100, 30, 40, 40, 90}, 40},
		{"a larger part that ends with the view", scroll{100, 30, 60, 40, 90}, 40},
		{"everything", scroll{100, 30, 70, 0, 100}, 0},
		{"a point at the end of the view", scroll{100, 30, 20, 50, 50}, 20},
		{"a point at its beginning", scroll{100, 30, 20, 20, 20}, 20},
		{"a point behind it", scroll{100, 30, 20, 51, 51}, 21},
		{"a point before it", scroll{100, 30, 20, 19, 19}, 19},
		{"a point at the end of the content", scroll{100, 30, 0, 100, 100}, 70},
		{"a point at its beginning, from the end", scroll{100, 30, 70, 0, 0}, 0},
		{"a content that is smaller than the view", scroll{20, 30, 0, 5, 20}, 0},
		{"a content as large as the view", scroll{30, 30, 0, 0, 30}, 0},
		{"a content without size", scroll{0, 30, 0, 0, 0}, 0},
		{"nothing at all", scroll{0, 0, 0, 0, 0}, 0},
		{"a point, without a view", scroll{100, 0, 20, 50, 50}, 50},
		{"a part, without a view", scroll{100, 0, 20, 50, 60}, 50},
		{"a part before, without a view", scroll{100, 0, 80, 50, 60}, 50},
		{"a part around, without a view", scroll{100, 0, 55, 50, 60}, 50},
		{"the last point of the largest content, without a view", scroll{impl.MaxSize, 0, 0, impl.MaxSize, impl.MaxSize}, impl.MaxSize},
		{"the largest part", scroll{impl.MaxSize, 1, impl.MaxSize - 1, 0, impl.MaxSize}, 0},
	} {
		checkPlace(t, "ScrollInto of "+c.what, c.s.into(), c.want)
	}
}

func TestScrollIntoOfWrongArguments(t *testing.T) {
	for _, s := range []scroll{
		{100, 30, 71, 0, 5}, {100, 30, -1, 0, 5}, {100, 30, -1, 40, 50}, {100, 30, -100, 40, 50}, {100, 30, 71, 75, 80}, {20, 30, 1, 0, 5}, {20, 30, -1, 0, 5}, {20, 30, -10, 0, 5}, {30, 30, 1, 0, 5}, {0, 0, 1, 0, 0},
		{100, 30, 0, 5, 4}, {100, 30, 0, 1, 0}, {100, 30, 0, 100, 99}, {100, 30, 70, 100, 0},
		{100, 30, 0, -1, 5}, {100, 30, 0, -1, -1}, {100, 30, 0, -5, -1}, {100, 30, 0, 5, 101}, {100, 30, 70, 101, 101}, {0, 30, 0, 0, 1}, {0, 30, 0, 1, 1},
		{-1, 30, 0, 0, 0}, {-1, 30, -1, 0, 0}, {100, -1, 0, 0, 0}, {100, -1, 101, 0, 0}, {impl.MaxSize + 1, 30, 0, 0, 0}, {100, impl.MaxSize + 1, 0, 0, 0},
		{impl.MaxSize, 0, impl.MaxSize + 1, 0, 0}, {impl.MaxSize, 0, 0, 0, impl.MaxSize + 1},
	} {
		checkPlace(t, fmt.Sprintf("ScrollInto of %+v", s), s.into(), -1)
	}
	for _, far := range append([]int{math.MaxInt - 30, math.MinInt + 30, -impl.MaxSize}, wrongPlaces...) {
		for i, s := range []scroll{
			{far, 30, 0, 0, 0}, {100, far, 0, 0, 0}, {100, 30, far, 0, 0}, {100, 30, 0, far, 5}, {100, 30, 0, 5, far}, {100, 30, 0, far, far}, {far, far, far, far, far},
		} {
			checkPlace(t, fmt.Sprintf("ScrollInto %d of %+v", i, s), s.into(), -1)
		}
	}
}

// P79
func TestViewsStayInTheirContents(t *testing.T) {
	eachClamp(func(content int, view int, at int) {
		place, end := impl.ClampScroll(content, view, at), max(0, content-view)
		if place < 0 || place > end || 0 <= at && at <= end && place != at {
			t.Errorf("ClampScroll(%d, %d, %d) = %d", content, view, at, place)
		}
		checkPlace(t, fmt.Sprintf("ClampScroll(%d, %d, %d)", content, view, place), impl.ClampScroll(content, view, place), place)
	})
}

// P80
func TestLaterPlacesAreLater(t *testing.T) {
	before := [3]int{-1, -1, -1}
	eachClamp(func(content int, view int, at int) {
		place := impl.ClampScroll(content, view, at)
		if before[0] == content && before[1] == view && place < before[2] {
			t.Errorf("ClampScroll(%d, %d, %d) = %d, but %d before", content, view, at, place, before[2])
		}
		before = [3]int{content, view, place}
	})
}

// P81
func TestWhatIsScrolledToIsSeen(t *testing.T) {
	eachScroll(func(s scroll) {
		place := s.into()
		if place < 0 || place > s.end() {
			t.Errorf("ScrollInto of %+v = %d, which is no place", s, place)
		}
		if s.low < place || s.low > place+s.view || !s.isLarge() && !s.shows(place) {
			t.Errorf("ScrollInto of %+v = %d does not show it", s, place)
		}
	})
}

// P82
func TestWhatIsSeenNeedsNoScrolling(t *testing.T) {
	eachScroll(func(s scroll) {
		again := s
		again.at = s.into()
		if !s.isLarge() && again.into() != again.at {
			t.Errorf("ScrollInto of %+v = %d, and then %d", s, again.at, again.into())
		}
		if s.shows(s.at) && again.at != s.at {
			t.Errorf("ScrollInto of %+v = %d, which was seen", s, again.at)
		}
	})
}

// P83
func TestNobodyScrollsMoreThanNeeded(t *testing.T) {
	forward, backward := 0, 0
	eachScroll(func(s scroll) {
		place := s.into()
		nearer := place
		switch {
		case s.isLarge() || place == s.at:
			return
		case place > s.at:
			nearer--
			forward++
		default:
			nearer++
			backward++
		}
		if s.shows(nearer) {
			t.Errorf("ScrollInto of %+v = %d, but %d is enough", s, place, nearer)
		}
	})
	if forward == 0 || backward == 0 {
		t.Errorf("%d views move forward, and %d backward", forward, backward)
	}
}

// P165
func TestContentsHaveEnds(t *testing.T) {
	eachClamp(func(content int, view int, at int) {
		checkPlace(t, fmt.Sprintf("the end of %d in a view of %d", content, view), impl.ClampScroll(content, view, impl.MaxSize), max(0, content-view))
		checkPlace(t, fmt.Sprintf("the beginning of %d in a view of %d", content, view), impl.ClampScroll(content, view, -impl.MaxSize), 0)
	})
}

// P166
func TestPointsAreShownAtTheEdge(t *testing.T) {
	eachScroll(func(s scroll) {
		place := s.into()
		if s.low != s.high {
			return
		}
		if s.low-place > s.view || place > s.low {
			t.Errorf("ScrollInto of %+v = %d is too far away", s, place)
		}
		if place != s.at && place != s.low && place+s.view != s.low {
			t.Errorf("ScrollInto of %+v = %d does not show it at the edge", s, place)
		}
	})
}
