package lines

import (
	"iter"

	"windowpane/breaks"
)

// filled tells the lines that items fill, in order.
func filled(l []Item, width int) iter.Seq[Line] {
	return func(yield func(Line) bool) {
		c := &cursor{items: l}
		for c.pass(c.onBlank); c.at < len(l); c.pass(c.onBlank) {
			if !yield(c.line(width)) {
				return
			}
			c.pass(c.onBlank)
			c.step(c.onEnd)
		}
	}
}

// cursor goes over items.
type cursor struct {
	items  []Item
	at     int
	passed int // the widths that it passed over: an int holds those of MaxFrags lengths
}

// line tells the line that begins at the cursor, and leaves the cursor behind
// it: behind no item where a line's end stands, as there is no cluster.
func (c *cursor) line(width int) Line {
	from := *c
	c.cluster()
	for next, is := c.next(); is && next.passed-from.passed <= width; next, is = c.next() {
		*c = next
	}
	return Line{From: from.at, To: c.at, Width: c.passed - from.passed}
}

// next tells a cursor behind the cluster that comes next, and whether one comes
// with nothing or blanks between.
func (c *cursor) next() (behind cursor, is bool) {
	behind = *c
	behind.pass(behind.onBlank)
	// A statement of its own, as it moves the cursor that is told beside it.
	is = behind.cluster()
	return behind, is
}

// cluster passes over the cluster that begins at the cursor, if one does.
func (c *cursor) cluster() bool {
	if c.step(c.onBox) {
		return true
	}
	from := c.at
	c.pass(c.onWord)
	return c.at > from
}

// pass passes over all items, from the cursor on, that are such.
func (c *cursor) pass(onSuch func() bool) {
	for c.step(onSuch) {
	}
}

// step passes over the item at the cursor, if it is such.
func (c *cursor) step(onSuch func() bool) bool {
	if !onSuch() {
		return false
	}
	c.passed += c.items[c.at].Width
	c.at++
	return true
}

func (c *cursor) onWord() bool  { return c.on(breaks.KWord) }
func (c *cursor) onBlank() bool { return c.on(breaks.KBlank) }
func (c *cursor) onEnd() bool   { return c.on(breaks.KHard) }
func (c *cursor) onBox() bool   { return c.on(breaks.KBox) }

// on tells whether an item of that kind stands at the cursor.
func (c *cursor) on(kind uint8) bool {
	return c.at < len(c.items) && c.items[c.at].Kind == kind
}
