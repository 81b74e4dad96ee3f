package flexline

import (
	"iter"
	"math"
)

// endless is a room that MaxFrags boxes, and the gaps between them, don't fill,
// however long they are.
const endless = math.MaxInt

// split tells the lines of boxes in a room, in order.
func split(sizes []int, gap, room int) iter.Seq[Line] {
	return func(yield func(Line) bool) {
		for from := 0; from < len(sizes); {
			to := from + first(sizes[from:], gap, room)
			if !yield(Line{From: from, To: to}) {
				return
			}
			from = to
		}
	}
}

// first tells how many of these boxes, of which there is one at least, stand in
// the first line.
func first(sizes []int, gap, room int) int {
	long := sizes[0]
	for many := 1; many < len(sizes); many++ {
		long += gap + sizes[many]
		if long > room {
			return many
		}
	}
	return len(sizes)
}
