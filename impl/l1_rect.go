package impl

// MaxPlace is the largest absolute coordinate of a corner.
const MaxPlace = 100000

// MaxSize is the largest width, and the largest height.
const MaxSize = 200000

// MaxEdge is the largest edge.
const MaxEdge = 50

// Rect is a rectangle.
type Rect struct {
	X int
	Y int
	W int
	H int
}

// within reports whether a number is in a range, both ends included.
func within(n int, low int, high int) bool {
	return low <= n && n <= high
}

// rectBetween returns the rectangle from its sides.
func rectBetween(left int, top int, right int, bottom int) Rect {
	return Rect{X: left, Y: top, W: right - left, H: bottom - top}
}

// right returns the first coordinate that is behind the rectangle.
func (r Rect) right() int {
	return r.X + r.W
}

// bottom returns the first coordinate that is below the rectangle.
func (r Rect) bottom() int {
	return r.Y + r.H
}

// valid reports whether the corner and the sizes are within their limits.
func (r Rect) valid() bool {
	return within(r.X, -MaxPlace, MaxPlace) && within(r.Y, -MaxPlace, MaxPlace) &&
		within(r.W, 0, MaxSize) && within(r.H, 0, MaxSize)
}

// ifValid returns the rectangle and true, or nothing if it is not valid.
func (r Rect) ifValid() (Rect, bool) {
	if !r.valid() {
		return Rect{}, false
	}
	return r, true
}

// has reports whether a point is in the rectangle.
func (r Rect) has(x int, y int) bool {
	return r.X <= x && x < r.right() && r.Y <= y && y < r.bottom()
}

// meet returns the common part; a size is at most 0 if there is none.
func (r Rect) meet(o Rect) Rect {
	return rectBetween(max(r.X, o.X), max(r.Y, o.Y), min(r.right(), o.right()), min(r.bottom(), o.bottom()))
}

// hull returns the least rectangle around both.
func (r Rect) hull(o Rect) Rect {
	return rectBetween(min(r.X, o.X), min(r.Y, o.Y), max(r.right(), o.right()), max(r.bottom(), o.bottom()))
}

// inset returns the rectangle without an edge on all sides.
func (r Rect) inset(edge int) Rect {
	x, w := insetSide(r.X, r.W, edge)
	y, h := insetSide(r.Y, r.H, edge)
	return Rect{X: x, Y: y, W: w, H: h}
}

// insetSide returns the beginning and the size of a side without an edge at both ends.
func insetSide(from int, size int, edge int) (int, int) {
	if size < 2*edge {
		return from + size/2, 0
	}
	return from + edge, size - 2*edge
}

// ValidRect reports whether a rectangle is valid.
func ValidRect(r Rect) bool {
	return r.valid()
}

// InRect reports whether a point is in a rectangle.
func InRect(r Rect, x int, y int) bool {
	return r.valid() && r.has(x, y)
}

// MeetRects returns the common part of two rectangles.
func MeetRects(a Rect, b Rect) (Rect, bool) {
	if !a.valid() || !b.valid() {
		return Rect{}, false
	}
	common := a.meet(b)
	if common.W <= 0 || common.H <= 0 {
		return Rect{}, false
	}
	return common, true
}

// HullOf returns the least rectangle around two rectangles.
func HullOf(a Rect, b Rect) (Rect, bool) {
	if !a.valid() || !b.valid() {
		return Rect{}, false
	}
	return a.hull(b).ifValid()
}

// InsetRect returns a rectangle that is smaller on all sides.
func InsetRect(r Rect, edge int) (Rect, bool) {
	if !r.valid() || !within(edge, 0, MaxEdge) {
		return Rect{}, false
	}
	return r.inset(edge).ifValid()
}
