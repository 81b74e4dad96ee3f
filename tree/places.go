package tree

import (
	"iter"

	"windowpane/api"
)

// within tells the places of the tree of the node at that place, rising; none,
// if there is no such node.
func within(nodes []api.Node, at int) iter.Seq[int] {
	return func(yield func(int) bool) {
		if !isPlace(nodes, at) || !yield(at) {
			return
		}
		for place := at + 1; place < len(nodes); place++ {
			if nodes[place].Depth <= nodes[at].Depth || !yield(place) {
				return
			}
		}
	}
}

// ahead tells the places ahead of the node at that place, the nearest one
// first; none, if there is no such node.
func ahead(nodes []api.Node, at int) iter.Seq[int] {
	return func(yield func(int) bool) {
		if !isPlace(nodes, at) {
			return
		}
		for place := at - 1; place >= 0; place-- {
			if !yield(place) {
				return
			}
		}
	}
}

func isPlace(nodes []api.Node, at int) bool { return at >= 0 && at < len(nodes) }

// isNextDeeper tells whether the lower one of two depths is one more than the
// upper one.
func isNextDeeper(upper, lower int) bool {
	// One more than the greatest depth would wrap round to the least one.
	return lower > upper && lower == upper+1
}
