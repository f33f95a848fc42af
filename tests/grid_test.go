package tests

import (
	"fmt"
	"slices"
	"testing"

	"loop.example/flexlayout/impl"
)

// tracks returns tracks: a positive number is a size, a negative one a part, and 0 is neither.
func tracks(numbers ...int) []impl.Track {
	var out []impl.Track
	for _, n := range numbers {
		out = append(out, impl.Track{Size: max(n, 0), Part: max(-n, 0)})
	}
	return out
}

// allTracks returns valid tracks: all small lists, with tracks without sizes and parts and those at their limits among them, and as many as possible.
func allTracks() [][]impl.Track {
	most := impl.MaxKids
	out := [][]impl.Track{
		tracks(times(0, most)...), tracks(times(impl.MaxBox, most)...), tracks(times(-1, most)...), tracks(times(-impl.MaxWeight, most)...),
		tracks(-1, -2, -3, -4, -5, -6, -7, -8), tracks(0, -10, impl.MaxBox, -1, 0, -7, 33, -10), tracks(5, 5, 5, 5, 5, 5, 5, -1),
	}
	rows([]int{0, 7, impl.MaxBox, -1, -3, -impl.MaxWeight}, 4, func(row []int) { out = append(out, tracks(row...)) })
	return out
}

// wrongTracks returns tracks that are not valid.
func wrongTracks() [][]impl.Track {
	out := [][]impl.Track{nil, {}, tracks(times(0, impl.MaxKids+1)...), tracks(times(-1, impl.MaxKids+1)...), make([]impl.Track, 1000)}
	wrong := []impl.Track{{Size: 1, Part: 1}, {Size: impl.MaxBox, Part: impl.MaxWeight}, {Size: 1, Part: -1}, {Size: -1, Part: 1}, {Size: -1, Part: -1}}
	for _, n := range append([]int{-1, impl.MaxBox + 1}, farNumbers...) {
		wrong = append(wrong, impl.Track{Size: n})
	}
	for _, n := range append([]int{-1, impl.MaxWeight + 1}, farNumbers...) {
		wrong = append(wrong, impl.Track{Part: n})
	}
	for _, track := range wrong {
		for at := range 3 {
			list := tracks(4, 0, -2)
			list[at] = track
			out = append(out, list, list[at:at+1])
		}
		full := tracks(times(-1, impl.MaxKids)...)
		full[impl.MaxKids-1] = track
		out = append(out, full)
	}
	return out
}

// eachGrid calls a function with all tracks, and with spaces and gaps that leave room for them or not.
func eachGrid(call func(list []impl.Track, space int, gap int)) {
	for _, list := range allTracks() {
		for _, space := range []int{0, 1, 7, 10, 25, 100, impl.MaxBox, impl.MaxBox + 51, 8 * impl.MaxBox, impl.MaxSize - 1, impl.MaxSize} {
			for _, gap := range []int{0, 1, 3, impl.MaxEdge} {
				call(list, space, gap)
			}
		}
	}
}

// partsOf returns the parts of the tracks that have one.
func partsOf(list []impl.Track) []int {
	var out []int
	for _, track := range list {
		if track.Part > 0 {
			out = append(out, track.Part)
		}
	}
	return out
}

// takenBy returns what the sizes of tracks and the gaps between them take.
func takenBy(list []impl.Track, gap int) int {
	taken := 0
	for i, track := range list {
		if i > 0 {
			taken += gap
		}
		taken += track.Size
	}
	return taken
}

// trackSizesOf returns the sizes of tracks, by the words of the specification.
func trackSizesOf(list []impl.Track, space int, gap int) []int {
	shares := impl.ShareSpace(max(space-takenBy(list, gap), 0), partsOf(list))
	var out []int
	for _, track := range list {
		if track.Part == 0 {
			out = append(out, track.Size)
			continue
		}
		out = append(out, shares[0])
		shares = shares[1:]
	}
	return out
}

// mustSpan returns where some tracks that are there begin, and their size.
func mustSpan(t *testing.T, list []impl.Track, space int, gap int, from int, many int) (int, int) {
	t.Helper()
	at, size, ok := impl.SpanOf(list, space, gap, from, many)
	if !ok {
		t.Fatalf("SpanOf(%v, %d, %d, %d, %d) fails", list, space, gap, from, many)
	}
	return at, size
}

// checkNoSpan reports an error unless SpanOf returns 0, 0 and false.
func checkNoSpan(t *testing.T, list []impl.Track, space int, gap int, from int, many int) {
	t.Helper()
	if at, size, ok := impl.SpanOf(list, space, gap, from, many); ok || at != 0 || size != 0 {
		t.Errorf("SpanOf(%v, %d, %d, %d, %d) = %d, %d, %v", list, space, gap, from, many, at, size, ok)
	}
}

func TestTracksOfAllKinds(t *testing.T) {
	for _, list := range allTracks() {
		if !impl.ValidTracks(list) {
			t.Errorf("ValidTracks(%v) is false", list)
		}
	}
	eachGrid(func(list []impl.Track, space int, gap int) {
		sizes := impl.TrackSizes(list, space, gap)
		if want := trackSizesOf(list, space, gap); !slices.Equal(sizes, want) {
			t.Errorf("TrackSizes(%v, %d, %d) = %v, want %v", list, space, gap, sizes, want)
		}
	})
}

func TestTrackSizesExamples(t *testing.T) {
	for _, c := range []struct {
		what       string
		list       []impl.Track
		space, gap int
		want       []int
	}{
		{"a size and parts", tracks(50, -1, -2), 200, 10, []int{50, 43, 87}},
		{"no room for parts", tracks(50, -1, -2), 40, 10, []int{50, 0, 0}},
		{"room for sizes and gaps only", tracks(50, -1, -2), 70, 10, []int{50, 0, 0}},
		{"room for 1 more", tracks(50, -1, -2), 71, 10, []int{50, 0, 1}},
		{"room for 2 more", tracks(50, -1, -1), 72, 10, []int{50, 1, 1}},
		{"no room for the gaps", tracks(-1, -2), 5, 10, []int{0, 0}},
		{"no space at all", tracks(-1, 3, 0), 0, 0, []int{0, 3, 0}},
		{"tracks without parts", tracks(3, 4, 5), 100, 10, []int{3, 4, 5}},
		{"tracks without parts and without room", tracks(3, 4, 5), 1, 10, []int{3, 4, 5}},
		{"tracks without sizes and parts", tracks(0, 0), 100, 10, []int{0, 0}},
		{"a track without size and part beside one with a part", tracks(0, -1), 100, 10, []int{0, 90}},
		{"one track with a part, which has no gap", tracks(-3), 100, impl.MaxEdge, []int{100}},
		{"one track with a size", tracks(7), 100, impl.MaxEdge, []int{7}},
		{"parts with equal rests", tracks(-1, -1, -1), 101, 0, []int{34, 34, 33}},
		{"parts with a greatest rest", tracks(-1, -2, -1), 2, 0, []int{1, 1, 0}},
		{"a part that takes the largest space", tracks(-impl.MaxWeight), impl.MaxSize, 0, []int{impl.MaxSize}},
		{"the largest sizes", tracks(times(impl.MaxBox, 8)...), impl.MaxSize, impl.MaxEdge, times(impl.MaxBox, 8)},
	} {
		checkRow(t, "TrackSizes of "+c.what, impl.TrackSizes(c.list, c.space, c.gap), c.want...)
	}
}

func TestSpansOfAllTracks(t *testing.T) {
	eachGrid(func(list []impl.Track, space int, gap int) {
		sizes := trackSizesOf(list, space, gap)
		for from := range list {
			for many := 1; many <= len(list)-from; many++ {
				at, size := mustSpan(t, list, space, gap, from, many)
				if at != total(sizes[:from])+from*gap || size != needed(sizes[from:from+many], gap) {
					t.Errorf("SpanOf(%v, %d, %d, %d, %d) = %d, %d", list, space, gap, from, many, at, size)
				}
			}
		}
	})
}

func TestSpanOfExamples(t *testing.T) {
	list := tracks(50, -1, 0, -2)
	for _, c := range []struct{ from, many, at, size int }{
		{0, 1, 0, 50}, {0, 2, 0, 100}, {0, 3, 0, 110}, {0, 4, 0, 200}, {1, 1, 60, 40}, {1, 2, 60, 50}, {1, 3, 60, 140}, {2, 1, 110, 0}, {2, 2, 110, 90}, {3, 1, 120, 80},
	} {
		if at, size := mustSpan(t, list, 200, 10, c.from, c.many); at != c.at || size != c.size {
			t.Errorf("SpanOf %d tracks from %d on = %d, %d", c.many, c.from, at, size)
		}
	}
}

func TestSpansThatAreNotThere(t *testing.T) {
	for _, list := range [][]impl.Track{tracks(-1), tracks(50, -1, -2), tracks(times(impl.MaxBox, impl.MaxKids)...)} {
		n := len(list)
		for _, from := range append([]int{-1, -n, n, n + 1}, farNumbers...) {
			for _, many := range append([]int{-1, 0, 1, 2, n, n + 1, 1 - from, n - from}, farNumbers...) {
				checkNoSpan(t, list, 200, 10, from, many)
			}
		}
		for from := range n {
			for _, many := range append([]int{-1, 0, n - from + 1, n + 1, -from}, farNumbers...) {
				checkNoSpan(t, list, 200, 10, from, many)
			}
		}
	}
}

func TestGridsOfWrongArguments(t *testing.T) {
	check := func(list []impl.Track, space int, gap int) {
		t.Helper()
		checkNil(t, fmt.Sprintf("TrackSizes(%v, %d, %d)", list, space, gap), impl.TrackSizes(list, space, gap))
		for from := range 3 {
			checkNoSpan(t, list, space, gap, from, 1)
		}
		checkNoSpan(t, list, space, gap, 0, 0)
	}
	for _, list := range wrongTracks() {
		if impl.ValidTracks(list) {
			t.Errorf("ValidTracks(%v) is true", list)
		}
		for _, space := range []int{0, 100, impl.MaxSize} {
			check(list, space, 0)
			check(list, space, 10)
		}
	}
	for _, list := range [][]impl.Track{tracks(-1), tracks(5), tracks(50, -1, -2), tracks(0, 0, 0)} {
		for _, space := range append([]int{-1, impl.MaxSize + 1}, farNumbers...) {
			check(list, space, 0)
			check(list, space, 10)
		}
		for _, gap := range append([]int{-1, impl.MaxEdge + 1}, farNumbers...) {
			check(list, 0, gap)
			check(list, 200, gap)
		}
	}
}

func TestTracksChangeNothing(t *testing.T) {
	sized := func(numbers ...int) []impl.Track {
		var out []impl.Track
		for _, n := range numbers {
			out = append(out, impl.Track{Size: n})
		}
		return out
	}
	for _, list := range [][]impl.Track{nil, tracks(5), tracks(50, -1, -2), tracks(3, 4, 5), tracks(0, 0), tracks(-5, 70)} {
		for name, call := range map[string]func(list []impl.Track) []impl.Track{
			"ValidTracks": func(list []impl.Track) []impl.Track { impl.ValidTracks(list); return nil },
			"TrackSizes":  func(list []impl.Track) []impl.Track { return sized(impl.TrackSizes(list, 200, 10)...) },
			"SpanOf": func(list []impl.Track) []impl.Track {
				at, size, _ := impl.SpanOf(list, 200, 10, 1, 1)
				return sized(at, size)
			},
		} {
			checkFreshList(t, fmt.Sprintf("%s(%v)", name, list), list, impl.Track{Part: 7}, impl.Track{Size: -77}, call)
		}
		first := impl.TrackSizes(list, 200, 10)
		kept := slices.Clone(first)
		spoil(first)
		checkRow(t, fmt.Sprintf("TrackSizes(%v) again", list), impl.TrackSizes(list, 200, 10), kept...)
	}
}

// P97
func TestTracksCanBeLeftOut(t *testing.T) {
	for _, list := range allTracks() {
		if less := list[:len(list)-1]; len(less) > 0 && (!impl.ValidTracks(list) || !impl.ValidTracks(less)) {
			t.Errorf("ValidTracks(%v) and ValidTracks(%v) are not both true", list, less)
		}
	}
}

// P98
func TestTracksFillTheSpace(t *testing.T) {
	eachGrid(func(list []impl.Track, space int, gap int) {
		sizes := impl.TrackSizes(list, space, gap)
		if len(sizes) != len(list) {
			t.Fatalf("TrackSizes(%v, %d, %d) = %v", list, space, gap, sizes)
		}
		if len(partsOf(list)) > 0 && takenBy(list, gap) <= space && needed(sizes, gap) != space {
			t.Errorf("TrackSizes(%v, %d, %d) = %v do not fill the space", list, space, gap, sizes)
		}
		for i, track := range list {
			if track.Part == 0 && sizes[i] != track.Size || track.Part > 0 && takenBy(list, gap) > space && sizes[i] != 0 {
				t.Errorf("TrackSizes(%v, %d, %d) = %v, with a wrong size of track %d", list, space, gap, sizes, i)
			}
		}
	})
}

// P99
func TestLargerPartsHaveMore(t *testing.T) {
	eachGrid(func(list []impl.Track, space int, gap int) {
		sizes := impl.TrackSizes(list, space, gap)
		for i, a := range list {
			for j, b := range list {
				if a.Part > b.Part && b.Part > 0 && sizes[i] < sizes[j] {
					t.Errorf("TrackSizes(%v, %d, %d) = %v, with less for track %d than for %d", list, space, gap, sizes, i, j)
				}
			}
		}
	})
}

// P100
func TestSpansAreTracksSideBySide(t *testing.T) {
	eachGrid(func(list []impl.Track, space int, gap int) {
		sizes := impl.TrackSizes(list, space, gap)
		for from := range list {
			for many := 1; from+many < len(list); many++ {
				at, size := mustSpan(t, list, space, gap, from, many)
				same, more := mustSpan(t, list, space, gap, from, many+1)
				if same != at || more != size+gap+sizes[from+many] {
					t.Errorf("SpanOf(%v, %d, %d, %d, %d) = %d, %d, behind %d, %d", list, space, gap, from, many+1, same, more, at, size)
				}
			}
		}
	})
}

// P101
func TestTracksFollowEachOther(t *testing.T) {
	eachGrid(func(list []impl.Track, space int, gap int) {
		next := 0
		for from := range list {
			at, size := mustSpan(t, list, space, gap, from, 1)
			if at != next {
				t.Errorf("SpanOf(%v, %d, %d, %d, 1) begins at %d, want %d", list, space, gap, from, at, next)
			}
			next = at + size + gap
		}
	})
}

// P173
func TestMoreSpaceMakesTracksNoSmallerTogether(t *testing.T) {
	eachGrid(func(list []impl.Track, space int, gap int) {
		for _, more := range []int{space + 1, space + 2, space + 50, impl.MaxSize} {
			if more <= impl.MaxSize && total(impl.TrackSizes(list, more, gap)) < total(impl.TrackSizes(list, space, gap)) {
				t.Errorf("TrackSizes(%v, %d, %d) are smaller than those in %d", list, more, gap, space)
			}
		}
	})
}

// P174
func TestAllTracksAreTheGrid(t *testing.T) {
	eachGrid(func(list []impl.Track, space int, gap int) {
		all := total(impl.TrackSizes(list, space, gap)) + gap*(len(list)-1)
		if at, size := mustSpan(t, list, space, gap, 0, len(list)); at != 0 || size != all {
			t.Errorf("SpanOf all tracks of (%v, %d, %d) = %d, %d, want 0, %d", list, space, gap, at, size, all)
		}
	})
}
