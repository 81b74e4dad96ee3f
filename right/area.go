package right

import "windowpane/api"

// area is a rectangle, up to, without, its right and its bottom; the zero one
// is that of nothing.
type area struct{ left, top, right, bottom int }

func areaOf(f api.Frag) area { return area{f.X, f.Y, f.X + f.W, f.Y + f.H} }

// isEmpty tells whether there is no width, or no height.
func (a area) isEmpty() bool { return a.left >= a.right || a.top >= a.bottom }

// with tells the least area in which both lie.
func (a area) with(b area) area {
	switch {
	case b.isEmpty():
		return a
	case a.isEmpty():
		return b
	}
	return area{min(a.left, b.left), min(a.top, b.top), max(a.right, b.right), max(a.bottom, b.bottom)}
}
