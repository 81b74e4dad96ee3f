package mutate

import (
	"windowpane/api"
	"windowpane/style"
	"windowpane/tree"
)

// May tells whether a document may be (P7.1).
func May(d api.Doc) bool {
	return tree.May(d) && stylesMay(d.Nodes) && nestsMay(d.Nodes) && kidsMay(d)
}

// stylesMay tells whether each box's style may be.
func stylesMay(nodes []api.Node) bool {
	for _, n := range nodes {
		// A text's style is the zero one, which may be.
		if !style.May(n.Style) {
			return false
		}
	}
	return true
}

// nestsMay tells whether, in a document with a shape, there aren't too many
// flexible boxes within one another.
func nestsMay(nodes []api.Node) bool {
	// How many flexible boxes there are above a node, by its depth: the last
	// one ahead that is one less deep is its parent.
	var above [api.MaxDeep + 1]int
	for _, n := range nodes {
		within := above[n.Depth]
		if isFlexible(n) {
			within++
		}
		if within > api.MaxFlex {
			return false
		}
		above[n.Depth+1] = within
	}
	return true
}

// kidsMay tells whether no flexible box has a text as a kid.
func kidsMay(d api.Doc) bool {
	for at, n := range d.Nodes {
		if !isFlexible(n) {
			continue
		}
		for _, kid := range tree.Kids(d, at) {
			if d.Nodes[kid].Kind == api.NkText {
				return false
			}
		}
	}
	return true
}

func isFlexible(n api.Node) bool { return n.Style.Display == api.DFlex }
