package layout

import (
	"iter"

	"windowpane/api"
	"windowpane/block"
	"windowpane/margin"
	"windowpane/width"
)

// layApart lays a box out apart, with a content so wide, and that height forced
// on it, or none.
func (p page) layApart(at, wide, forced int) { p.lay(at, wide, forced, true) }

// lay lays a box out, and tells it as one of a height, with margins, and
// perhaps through, as its content is.
func (p page) lay(at, wide, forced int, apart bool) block.Kid {
	b := &p[at]
	b.x, b.y, b.wide = 0, 0, wide
	if b.Style.Display == api.DFlex {
		p.layFlex(b, forced)
		return block.Kid{Height: b.tall}
	}
	s := p.flow(b, apart)
	b.tall = b.height(forced, s.Height)
	return block.Kid{Top: s.Top, Bottom: s.Bottom, Height: b.tall, Through: s.Through}
}

// flow lays out what is in a box of which the width is known, one below the
// other.
func (p page) flow(b *node, apart bool) block.Stacked {
	var kids []block.Kid
	var groups [][]int
	for group, isRun := range p.groups(b) {
		kid, is := p.stacked(b, group, isRun)
		if is {
			kids, groups = append(kids, kid), append(groups, group)
		}
	}
	s := sure(block.Stack(kids, !apart && b.isOpen(api.Top), !apart && b.isOpenBelow()))
	for i, group := range groups {
		for _, at := range group {
			p.move(at, 0, s.At[i])
		}
	}
	return s
}

// stacked lays a group of kids out, and tells it as one that is stacked, if it
// is.
func (p page) stacked(b *node, group []int, isRun bool) (one block.Kid, is bool) {
	if isRun {
		height, has := p.run(b, group)
		return block.Kid{Height: height}, has
	}
	return p.below(group[0], b.wide), true
}

// below lays out a box that stands below others, in a content so wide.
func (p page) below(at, around int) block.Kid {
	k := p.kid(at, around)
	left, wide, _, e := width.Solve(around, k.asked)
	demand(e == api.OK, e)
	one := p.lay(at, wide, none, false)
	p.move(at, left, 0)
	one.Top = margin.Join(margin.One(k.margins[api.Top]), one.Top)
	one.Bottom = margin.Join(margin.One(k.margins[api.Bottom]), one.Bottom)
	one.Height += k.up
	return one
}

// groups tells a box's kids, in order: all of a run at once, and whether they
// are one, each other one by itself.
func (p page) groups(b *node) iter.Seq2[[]int, bool] {
	return func(yield func([]int, bool) bool) {
		for rest := b.kids; len(rest) > 0; {
			many := 0
			for many < len(rest) && p[rest[many]].isOfRun() {
				many++
			}
			isRun := many > 0
			many = max(many, 1)
			if !yield(rest[:many], isRun) {
				return
			}
			rest = rest[many:]
		}
	}
}

// isOfRun tells whether a node stands in lines.
func (n *node) isOfRun() bool { return !n.isBox() || n.Style.Display == api.DInline }

// isOpen tells whether a box has no padding and no border at that side.
func (n *node) isOpen(side int) bool { return n.Style.Padding[side] == 0 && n.Style.Border[side] == 0 }

// isOpenBelow tells whether nothing stands between a box's lower margin and
// those of its kids, if it isn't laid out apart.
func (n *node) isOpenBelow() bool {
	return n.isOpen(api.Bottom) && n.tallAsked == none && n.tallLeast == 0 && n.tallMost == api.MaxCoord
}
