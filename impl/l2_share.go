package impl

import (
	"cmp"
	"slices"
)

// MaxKids is the largest number of boxes side by side.
const MaxKids = 8

// MaxBox is the largest size of a box.
const MaxBox = 10000

// MaxWeight is the largest weight.
const MaxWeight = 10

// JustifyStart is the beginning of a space.
const JustifyStart = 0

// JustifyEnd is the end of a space.
const JustifyEnd = 1

// JustifyMiddle is the middle of a space.
const JustifyMiddle = 2

// JustifyBetween is the whole of a space.
const JustifyBetween = 3

// Flex is a size that can grow and shrink.
type Flex struct {
	Base   int
	Min    int
	Max    int
	Grow   int
	Shrink int
}

// division is what one weight leaves when a space is divided.
type division struct {
	at   int
	rest int
}

// moving is a size on its way from its base to one of its bounds.
type moving struct {
	weight int
	room   int
	moved  int
}

// sumOf returns the sum of numbers.
func sumOf(list []int) int {
	sum := 0
	for _, n := range list {
		sum += n
	}
	return sum
}

// sumWithGaps returns how much sizes need one behind the other, with a gap between two of them.
func sumWithGaps(sizes []int, gap int) int {
	return sumOf(sizes) + gap*max(0, len(sizes)-1)
}

// validList reports whether there are not too many numbers, from 0 to a greatest one.
func validList(list []int, most int, greatest int) bool {
	if len(list) > most {
		return false
	}
	for _, n := range list {
		if !within(n, 0, greatest) {
			return false
		}
	}
	return true
}

// validRow reports whether there are as many numbers as boxes can be side by side, from 0 to a greatest one.
func validRow(list []int, greatest int) bool {
	return len(list) > 0 && validList(list, MaxKids, greatest)
}

// ShareSpace returns a space that is split by weights.
func ShareSpace(space int, weights []int) []int {
	if !within(space, 0, MaxSize) || !validRow(weights, MaxSize) {
		return nil
	}
	shares := make([]int, len(weights))
	total := sumOf(weights)
	if total == 0 {
		return shares
	}
	rests := make([]division, len(weights))
	for i, w := range weights {
		shares[i] = space * w / total
		rests[i] = division{at: i, rest: space * w % total}
	}
	// A stable order keeps the first ones of equal rests in front.
	slices.SortStableFunc(rests, func(a, b division) int { return cmp.Compare(b.rest, a.rest) })
	for _, d := range rests[:space-sumOf(shares)] {
		shares[d.at]++
	}
	return shares
}

// valid reports whether the bounds, the base and the weights are within their limits.
func (f Flex) valid() bool {
	return within(f.Min, 0, MaxBox) && within(f.Max, f.Min, MaxBox) && within(f.Base, f.Min, f.Max) &&
		within(f.Grow, 0, MaxWeight) && within(f.Shrink, 0, MaxWeight)
}

// growing returns the size on its way to Max.
func (f Flex) growing() moving {
	return moving{weight: f.Grow, room: f.Max - f.Base}
}

// shrinking returns the size on its way to Min.
func (f Flex) shrinking() moving {
	return moving{weight: f.Shrink, room: f.Base - f.Min}
}

// ValidFlexes reports whether flexible sizes are valid.
func ValidFlexes(list []Flex) bool {
	if !within(len(list), 1, MaxKids) {
		return false
	}
	for _, f := range list {
		if !f.valid() {
			return false
		}
	}
	return true
}

// openWeight returns the weight, or 0 if the bound is reached.
func (m *moving) openWeight() int {
	if m.room == 0 {
		return 0
	}
	return m.weight
}

// move moves the size by a share, but not beyond its bound, and returns by how much.
func (m *moving) move(share int) int {
	step := min(share, m.room)
	m.room -= step
	m.moved += step
	return step
}

// moveBy moves sizes by an amount together, in rounds, as far as their bounds let them.
func moveBy(list []moving, amount int) {
	for {
		weights := make([]int, len(list))
		for i := range list {
			weights[i] = list[i].openWeight()
		}
		done := 0
		for i, share := range ShareSpace(amount, weights) {
			done += list[i].move(share)
		}
		// Only sizes with room get shares, so nothing moves exactly if all shares are 0.
		if done == 0 {
			return
		}
		amount -= done
	}
}

// FlexSizes returns flexible sizes for a space.
func FlexSizes(list []Flex, space int) []int {
	if !ValidFlexes(list) || !within(space, 0, MaxSize) {
		return nil
	}
	left := space
	for _, f := range list {
		left -= f.Base
	}
	way, start := 1, Flex.growing
	if left < 0 {
		way, start = -1, Flex.shrinking
	}
	moves := make([]moving, len(list))
	for i, f := range list {
		moves[i] = start(f)
	}
	moveBy(moves, way*left)
	sizes := make([]int, len(list))
	for i, f := range list {
		sizes[i] = f.Base + way*moves[i].moved
	}
	return sizes
}

// LeftOver returns what is left of a space.
func LeftOver(list []Flex, space int) int {
	sizes := FlexSizes(list, space)
	if sizes == nil {
		return 0
	}
	return space - sumOf(sizes)
}

// spareInFront returns how much of a spare space is in front of each of some sizes.
func spareInFront(spare int, count int, justify int) []int {
	front := make([]int, count)
	switch justify {
	case JustifyEnd:
		front[0] = spare
	case JustifyMiddle:
		front[0] = spare / 2
	case JustifyBetween:
		copy(front[1:], ShareSpace(spare, slices.Repeat([]int{1}, count-1)))
	}
	return front
}

// OffsetsOf returns where sizes begin in a space.
func OffsetsOf(sizes []int, space int, gap int, justify int) []int {
	if !validRow(sizes, MaxBox) || !within(space, 0, MaxSize) || !within(gap, 0, MaxEdge) ||
		!within(justify, JustifyStart, JustifyBetween) {
		return nil
	}
	spare := max(0, space-sumWithGaps(sizes, gap))
	offsets := spareInFront(spare, len(sizes), justify)
	end := 0
	for i, size := range sizes {
		offsets[i] += end
		end = offsets[i] + size + gap
	}
	return offsets
}
