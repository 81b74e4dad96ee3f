package mutate

import (
	"slices"

	"windowpane/api"
	"windowpane/tree"
)

// find tells the place of the node with that key, which must be there, and of
// that kind.
func find(d api.Doc, key int, kind uint8) int {
	at := tree.Find(d, key)
	demand(at >= 0 && d.Nodes[at].Kind == kind, api.ErrChange)
	return at
}

// fresh tells a new node with what counts of that one, by its kind.
func fresh(n api.Node) api.Node {
	demand(n.Kind == api.NkBox || n.Kind == api.NkText, api.ErrChange)
	if n.Kind == api.NkText {
		return api.Node{Kind: n.Kind, Text: n.Text}
	}
	return api.Node{Kind: n.Kind, Style: n.Style}
}

// cut tells a document without the tree of the node with that key, which must
// be there, and not be the root; and the nodes of that tree.
func cut(d api.Doc, key int) (rest api.Doc, nodes []api.Node) {
	at := tree.Find(d, key)
	demand(at > 0, api.ErrChange)
	end := tree.End(d, at)
	return api.Doc{Nodes: slices.Concat(d.Nodes[:at], d.Nodes[end:]), Next: d.Next}, d.Nodes[at:end]
}

// put tells a document with the nodes of a tree put into it, as the kid of
// that number of the box with that key.
func put(d api.Doc, nodes []api.Node, key, number int) api.Doc {
	parent := find(d, key, api.NkBox)
	spots := append(tree.Kids(d, parent), tree.End(d, parent))
	demand(number >= 0 && number < len(spots), api.ErrChange)
	at := spots[number]
	came := api.Doc{Nodes: slices.Concat(d.Nodes[:at], nodes, d.Nodes[at:]), Next: d.Next}
	deeper := d.Nodes[parent].Depth + 1 - nodes[0].Depth
	for i := range nodes {
		came.Nodes[at+i].Depth += deeper
	}
	return came
}
