package layout

import (
	"windowpane/api"
	"windowpane/fixed"
	"windowpane/style"
	"windowpane/width"
)

// kid is a box with what it asks for, of the width of the content in which it
// stands.
type kid struct {
	*node
	at      int
	around  int
	asked   width.Asked
	margins [4]int // 0 where they are free
}

// kid tells the box at that place, in a content so wide.
func (p page) kid(at, around int) kid {
	k := kid{node: &p[at], at: at, around: around}
	k.asked = sure(width.Of(k.Style, around))
	for side, margin := range k.Style.Margin {
		n, _, e := style.Resolve(margin, around)
		demand(e == api.OK, e)
		k.margins[side] = n
	}
	return k
}

// outerWide tells how wide the box is with its margins, for a content so wide.
func (k kid) outerWide(wide int) int {
	return wide + k.across + k.margins[api.Left] + k.margins[api.Right]
}

// outerTall tells how tall the box is with its margins, for a content so tall.
func (k kid) outerTall(tall int) int {
	return tall + k.up + k.margins[api.Top] + k.margins[api.Bottom]
}

// room tells how wide the box's content is where it fills what is around.
func (k kid) room() int { return max(k.around-k.outerWide(0), 0) }

// clampedWide tells a width of the box's content, brought between its least and
// its most one.
func (k kid) clampedWide(wide int) int {
	return fixed.Clamp(wide, k.asked.Least, k.asked.Most)
}

// fitted tells how wide the box's content is as it is asked for, or else as it
// fits what is in it.
func (p page) fitted(k kid) int {
	wide := k.asked.Width
	if !k.asked.Is {
		wide = width.Fit(p.content(k.at, narrowly), p.content(k.at, widely), k.room())
	}
	return k.clampedWide(wide)
}
