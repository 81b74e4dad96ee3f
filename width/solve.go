package width

import "windowpane/fixed"

// solved solves the equation. What comes on the way may be no length, as it
// isn't told; an int holds what a few lengths come to.
func (a Asked) solved(of int) (left, width, right int) {
	if a.AutoLeft {
		a.Left = 0
	}
	if a.AutoRight {
		a.Right = 0
	}
	room := of - a.Left - a.Edges - a.Right
	if !a.Is {
		// It may be below 0 here; the least that it is brought to isn't.
		a.Width = room
	}
	width = fixed.Clamp(a.Width, a.Least, a.Most)
	left, right = a.margins(room - width)
	return left, width, right
}

// margins tells what becomes of the margins, where so much is left beside them.
func (a Asked) margins(rest int) (left, right int) {
	left, right = a.Left, a.Right
	switch {
	case rest < 0 || !a.AutoLeft && !a.AutoRight:
		right += rest
	case a.AutoLeft && a.AutoRight:
		left = rest / 2
		rest -= left
		fallthrough
	case a.AutoRight:
		right = rest
	default:
		left = rest
	}
	return left, right
}
