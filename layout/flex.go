package layout

import (
	"windowpane/api"
	"windowpane/fixed"
	"windowpane/flex"
	"windowpane/flexible"
	"windowpane/flexline"
	"windowpane/style"
)

func isColumn(b *node) bool { return b.Style.Dir == api.Column || b.Style.Dir == api.ColumnBack }

// layFlex lays out what is in a flexible box of which the width is known, and
// settles its height.
func (p page) layFlex(b *node, forced int) {
	if isColumn(b) {
		p.layColumn(b, forced)
		return
	}
	b.tall = b.height(forced, p.layRow(b, forced))
}

// inOrder tells a flexible box's kids in the order in which they stand.
func (p page) inOrder(b *node) []kid {
	orders := make([]int, len(b.kids))
	for i, at := range b.kids {
		orders[i] = p[at].Style.Order
	}
	kids := make([]kid, len(b.kids))
	for i, place := range flexline.Order(orders) {
		kids[i] = p.kid(b.kids[place], b.wide)
	}
	return kids
}

// layRow lays out kids side by side, and tells the height that comes of them.
func (p page) layRow(b *node, forced int) int {
	kids := p.inOrder(b)
	items, sizes := make([]flexible.Item, len(kids)), make([]int, len(kids))
	for i, k := range kids {
		items[i] = flexible.Item{
			Base: p.baseWide(k), Least: k.asked.Least, Most: k.asked.Most,
			Grow: k.Style.Grow, Shrink: k.Style.Shrink, Outer: k.outerWide(0),
		}
		sizes[i] = flexible.First(items[i]) + items[i].Outer
	}
	down := 0
	var heights []int
	for i, line := range sure(flexline.Split(sizes, b.Style.Gap, b.wide, b.Style.Wrap)) {
		if i > 0 {
			heights = append(heights, b.Style.LineGap)
			down += b.Style.LineGap
		}
		wides := sure(flexible.Sizes(items[line.From:line.To], b.Style.Gap, b.wide))
		height := p.layLine(b, kids[line.From:line.To], wides, forced, down)
		heights = append(heights, height)
		down += height
	}
	return sure(fixed.Add(heights...))
}

// baseWide tells the width of a kid's content to begin with, in a row.
func (p page) baseWide(k kid) int {
	basis, is, e := style.Resolve(k.Style.Basis, k.around)
	demand(e == api.OK, e)
	switch {
	case is:
		return k.inner(basis, k.across)
	case k.asked.Is:
		return k.asked.Width
	}
	return p.content(k.at, widely)
}

// layLine lays out the kids of a line, with contents so wide, in a line that is
// so far down, and tells how tall the line is.
func (p page) layLine(b *node, kids []kid, wides []int, forced, down int) int {
	height := 0
	outers := make([]int, len(kids))
	for i, k := range kids {
		p.layApart(k.at, wides[i], none)
		height = max(height, k.outerTall(k.tall))
		outers[i] = k.outerWide(wides[i])
	}
	if settled := b.settled(forced); !b.Style.Wrap && settled != none {
		height = settled
	}
	begins := sure(flex.Main(outers, b.Style.Gap, b.wide, b.Style.Justify, b.Style.Dir == api.RowBack))
	for i, k := range kids {
		if b.Style.Align == api.Stretch && k.tallAsked == none {
			p.stretch(k, k.clamped(max(height-k.outerTall(0), 0)))
		}
		across := sure(flex.Cross(k.outerTall(k.tall), height, b.Style.Align))
		p.move(k.at, begins[i]+k.margins[api.Left], down+across+k.margins[api.Top])
	}
	return height
}

// stretch lays a kid out anew with a content so tall, unless it is.
func (p page) stretch(k kid, tall int) {
	if k.tall != tall {
		p.layApart(k.at, k.wide, tall)
	}
}

// layColumn lays out kids one below the other, and settles the height of their
// box.
func (p page) layColumn(b *node, forced int) {
	kids := p.inOrder(b)
	items := make([]flexible.Item, len(kids))
	for i, k := range kids {
		p.layApart(k.at, p.wideInColumn(b, k), none)
		items[i] = flexible.Item{
			Base: baseTall(k), Least: k.tallLeast, Most: k.tallMost,
			Grow: k.Style.Grow, Shrink: k.Style.Shrink, Outer: k.outerTall(0),
		}
	}
	talls := sure(flexible.Sizes(items, b.Style.Gap, b.settled(forced)))
	var heights, outers []int
	for i, k := range kids {
		p.stretch(k, talls[i])
		outers = append(outers, k.outerTall(k.tall))
		if i > 0 {
			heights = append(heights, b.Style.Gap)
		}
		heights = append(heights, outers[i])
	}
	b.tall = b.height(forced, max(sure(fixed.Add(heights...)), 0))
	begins := sure(flex.Main(outers, b.Style.Gap, b.tall, b.Style.Justify, b.Style.Dir == api.ColumnBack))
	for i, k := range kids {
		across := sure(flex.Cross(k.outerWide(k.wide), b.wide, b.Style.Align))
		p.move(k.at, across+k.margins[api.Left], begins[i]+k.margins[api.Top])
	}
}

// wideInColumn tells how wide a kid's content is, in a column.
func (p page) wideInColumn(b *node, k kid) int {
	if !k.asked.Is && b.Style.Align == api.Stretch {
		return k.clampedWide(k.room())
	}
	return p.fitted(k)
}

// baseTall tells the height of a kid's content to begin with, in a column.
func baseTall(k kid) int {
	if k.Style.Basis.Kind == api.LFixed {
		return k.inner(k.Style.Basis.N, k.up)
	}
	return k.tall
}
