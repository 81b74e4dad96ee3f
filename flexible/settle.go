package flexible

import (
	"cmp"

	"windowpane/api"
	"windowpane/fixed"
)

// box is a box as it was handed in, its goal in a round, the size that it has
// come to so far, and whether it is settled at that. A size is always one of
// the least, the most, and what lies between them; a goal isn't told, so it may
// be no length.
type box struct {
	Item
	goal, size int
	settled    bool
}

// boxesOf tells boxes at their first sizes.
func boxesOf(l []Item) []box {
	boxes := make([]box, len(l))
	for i, x := range l {
		boxes[i] = box{Item: x, size: First(x)}
	}
	return boxes
}

func sizesOf(boxes []box) []int {
	sizes := make([]int, len(boxes))
	for i, b := range boxes {
		sizes[i] = b.size
	}
	return sizes
}

// changed tells how much greater the least and the most made a box's goal.
func (b *box) changed() int { return b.size - b.goal }

// line is boxes that are settled, the room that they have for their contents,
// and whether they grow. The room may be no length, as only what is left of it
// is asked: an int holds what MaxFrags lengths come to.
type line struct {
	boxes []box
	room  int
	grows bool
}

// lineOf tells the line of boxes at their first sizes.
func lineOf(boxes []box, gap, room int) *line {
	first := 0
	for i, b := range boxes {
		if i > 0 {
			room -= gap
		}
		room -= b.Outer
		first += b.size
	}
	return &line{boxes: boxes, room: room, grows: first < room}
}

// settle settles all boxes: some at once, the others in rounds.
func (l *line) settle() api.Errno {
	for i := range l.boxes {
		l.boxes[i].settled = l.stays(&l.boxes[i])
	}
round:
	open := l.open()
	if len(open) == 0 {
		return api.OK
	}
	left := l.left()
	if !fixed.Fits(left) {
		return api.ErrOver
	}
	l.giveOut(left, open)
	settleChanged(open)
	goto round
}

// stays tells whether a box at its first size is settled at once.
func (l *line) stays(b *box) bool {
	if l.grows {
		return b.Grow == 0 || b.Base > b.size
	}
	return b.Shrink == 0 || b.Base < b.size
}

// open tells the boxes that aren't settled yet.
func (l *line) open() []*box {
	var open []*box
	for i := range l.boxes {
		if b := &l.boxes[i]; !b.settled {
			open = append(open, b)
		}
	}
	return open
}

// left tells what is left beside the sizes of settled boxes and the bases of
// the others.
func (l *line) left() int {
	left := l.room
	for _, b := range l.boxes {
		if b.settled {
			left -= b.size
		} else {
			left -= b.Base
		}
	}
	return left
}

// giveOut gives what is left out to boxes, and brings the goals that they come
// to between the least and the most.
func (l *line) giveOut(left int, open []*box) {
	weights := make([]int, len(open))
	for i, b := range open {
		weights[i] = l.weight(b)
	}
	// What is left is a length, and a length times MaxGrow is no more than a
	// weight may be: Share refuses none of these.
	shares, _ := fixed.Share(l.given(left), weights)
	for i, b := range open {
		b.goal = b.Base + shares[i]
		b.size = fixed.Clamp(b.goal, b.Least, b.Most)
	}
}

// given tells how much of what is left is given out: nothing of what lies on
// the other side of 0.
func (l *line) given(left int) int {
	if l.grows {
		return max(left, 0)
	}
	return min(left, 0)
}

func (l *line) weight(b *box) int {
	if l.grows {
		return b.Grow
	}
	return b.Shrink * b.Base
}

// settleChanged settles boxes at what their goals were brought to: all, if that
// changed nothing in all, else those that it changed to that side.
func settleChanged(open []*box) {
	all := 0
	for _, b := range open {
		all += b.changed()
	}
	for _, b := range open {
		b.settled = all == 0 || cmp.Compare(b.changed(), 0) == cmp.Compare(all, 0)
	}
}
