package layout

import (
	"iter"

	"windowpane/api"
)

// corner is where a box's content begins.
type corner struct{ x, y int }

// frags tells the fragments of a page that is laid out, in its order.
func (p page) frags() iter.Seq[api.Frag] {
	return func(yield func(api.Frag) bool) {
		corners := make([]corner, len(p))
		for at := range p {
			n := &p[at]
			var from corner
			if n.parent != none {
				from = corners[n.parent]
			}
			for _, f := range n.shown() {
				f.Node, f.Depth = n.Key, n.Depth
				f.X += from.x
				f.Y += from.y
				if n.isBox() {
					corners[at] = n.inside(f)
				}
				if !yield(f) {
					return
				}
			}
		}
	}
}

// shown tells a node's fragments, from the corner of the content in which it
// stands.
func (n *node) shown() []api.Frag {
	if !n.isBox() {
		return n.parts
	}
	return []api.Frag{{
		X: n.x + n.Style.OffX, Y: n.y + n.Style.OffY,
		W: n.wide + n.across, H: n.tall + n.up,
	}}
}

// inside tells where a box's content begins, by its fragment.
func (n *node) inside(f api.Frag) corner {
	s := n.Style
	return corner{f.X + s.Padding[api.Left] + s.Border[api.Left], f.Y + s.Padding[api.Top] + s.Border[api.Top]}
}
