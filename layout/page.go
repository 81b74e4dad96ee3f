package layout

import (
	"windowpane/api"
	"windowpane/fixed"
	"windowpane/style"
	"windowpane/tree"
	"windowpane/width"
)

const (
	// none stands for a height, or a place, where there is none.
	none = -1
	// fontAround is the font around the root.
	fontAround = 16
)

// page is a document while it is laid out, node by node.
type page []node

// node is a node of a page: what is known of it ahead, and where it stands as
// it was laid out last.
type node struct {
	api.Node
	parent int
	kids   []int
	font   int // a text's is that of the box in which it stands

	across, up                     int // a box's edges
	tallAsked, tallLeast, tallMost int // its content's height, as it is asked for

	x, y       int        // a box's corner, from that of the content in which it stands
	wide, tall int        // a box's content
	parts      []api.Frag // a text's, from the corner of the content in which it stands
}

// pageOf tells a document that may be as a page, with nothing laid out yet.
func pageOf(d api.Doc) page {
	p := make(page, len(d.Nodes))
	for at := range p {
		n := &p[at]
		*n = node{Node: d.Nodes[at], parent: tree.Parent(d, at), kids: tree.Kids(d, at), tallAsked: none}
		around := fontAround
		if n.parent != none {
			around = p[n.parent].font
		}
		n.font = style.Font(n.Style, around)
		// The style may be, and a height is never a part: no error is told.
		n.across, n.up, _ = style.Edges(n.Style)
		n.tallLeast, n.tallMost, _ = style.Heights(n.Style)
		if tall, is, _ := style.Height(n.Style); is {
			n.tallAsked = tall
		}
	}
	return p
}

// placeOf tells the place of the box with that key, which must be there.
func placeOf(d api.Doc, key int) int {
	at := tree.Find(d, key)
	demand(at != none && d.Nodes[at].Kind == api.NkBox, api.ErrArg)
	return at
}

// root lays the root out, in a width.
func (p page) root(around int) {
	k := p.kid(0, around)
	left, wide, _, e := width.Solve(around, k.asked)
	demand(e == api.OK, e)
	p.layApart(0, wide, none)
	p.move(0, left, k.margins[api.Top])
}

func (n *node) isBox() bool { return n.Kind == api.NkBox }

// settled tells the height of a box's content where it doesn't hang on its
// kids: the one that is forced on it, or else the one that it asks for; or none.
func (n *node) settled(forced int) int {
	if forced != none || n.tallAsked == none {
		return forced
	}
	return n.clamped(n.tallAsked)
}

// height tells the height of a box's content, by the one that comes of its kids.
func (n *node) height(forced, comes int) int {
	if tall := n.settled(forced); tall != none {
		return tall
	}
	return n.clamped(comes)
}

// clamped tells a height of a box's content, brought between its least and its
// most one.
func (n *node) clamped(tall int) int { return fixed.Clamp(tall, n.tallLeast, n.tallMost) }

// inner tells what a size that is asked for comes to as a content's one.
func (n *node) inner(size, edges int) int {
	if n.Style.Whole {
		return max(size-edges, 0)
	}
	return size
}

// move moves a node from where it stands.
func (p page) move(at, right, down int) {
	n := &p[at]
	n.x += right
	n.y += down
	for i := range n.parts {
		n.parts[i].X += right
		n.parts[i].Y += down
	}
}
