package layout

import (
	"windowpane/api"
	"windowpane/breaks"
	"windowpane/inline"
	"windowpane/lines"
	"windowpane/metric"
)

// item is an item of a run: a piece of a text, or a box.
type item struct {
	of     int // the place of its node
	kind   uint8
	text   string
	wide   int
	up     int // above the base
	down   int // below it
	valign uint8
}

// items tells the items of a run in a box; each box in the run is told by a
// closure.
func (p page) items(b *node, run []int, box func(at int) item) []item {
	var l []item
	up, down := sure(metric.Up(b.font)), sure(metric.Down(b.font))
	for _, at := range run {
		if p[at].isBox() {
			one := box(at)
			one.of, one.kind = at, breaks.KBox
			l = append(l, one)
			continue
		}
		for _, piece := range breaks.Cut(p[at].Text, b.Style.Ws) {
			wide := sure(metric.Width(piece.Text, b.font))
			l = append(l, item{of: at, kind: piece.Kind, text: piece.Text, wide: wide, up: up, down: down})
		}
	}
	return l
}

// plain tells items as lines are filled with.
func plain(l []item) []lines.Item {
	told := make([]lines.Item, len(l))
	for i, x := range l {
		told[i] = lines.Item{Kind: x.kind, Width: x.wide}
	}
	return told
}

// spots tells items as they are placed in a line.
func spots(l []item) []inline.Spot {
	told := make([]inline.Spot, len(l))
	for i, x := range l {
		told[i] = inline.Spot{Width: x.wide, Up: x.up, Down: x.down, Align: x.valign}
	}
	return told
}

// run lays out a run in a box of which the width is known, and tells how tall
// it is, and whether it has lines.
func (p page) run(b *node, kids []int) (height int, has bool) {
	for _, at := range kids {
		p[at].parts = nil
	}
	items := p.items(b, kids, func(at int) item { return p.boxInLine(at, b.wide) })
	filled := sure(lines.Fill(plain(items), b.wide))
	for _, line := range filled {
		height += p.line(b, items[line.From:line.To], height)
	}
	return height, len(filled) > 0
}

// boxInLine lays out a box of a run, in a content so wide, and tells it as an
// item.
func (p page) boxInLine(at, around int) item {
	k := p.kid(at, around)
	wide := p.fitted(k)
	p.layApart(at, wide, none)
	p.move(at, k.margins[api.Left], k.margins[api.Top])
	return item{wide: k.outerWide(wide), up: k.outerTall(k.tall), valign: k.Style.Valign}
}

// line places items in a line that is so far down, and tells how tall it is.
func (p page) line(b *node, l []item, down int) int {
	fontUp, fontDown := sure(metric.Up(b.font)), sure(metric.Down(b.font))
	at, height, _, e := inline.Place(spots(l), fontUp, fontDown, b.wide, b.Style.Lines)
	demand(e == api.OK, e)
	for i, x := range l {
		n := &p[x.of]
		switch {
		case n.isBox():
			p.move(x.of, at[i].X, down+at[i].Y)
		case i > 0 && l[i-1].of == x.of:
			// All items of a text in a line are one part.
			part := &n.parts[len(n.parts)-1]
			part.W += x.wide
			part.Text += x.text
		default:
			n.parts = append(n.parts, api.Frag{
				Part: len(n.parts) + 1,
				X:    at[i].X, Y: down + at[i].Y, W: x.wide, H: fontUp + fontDown,
				Text: x.text,
			})
		}
	}
	return height
}
