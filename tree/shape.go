package tree

import (
	"slices"

	"windowpane/api"
)

// depthsMay tells whether the depths of nodes, of one at least, are those of a
// tree whose root is a box, and in which no text has kids.
func depthsMay(nodes []api.Node) bool {
	if nodes[0].Depth != 0 || nodes[0].Kind != api.NkBox {
		return false
	}
	most := deepestBehind(nodes[0])
	for _, n := range nodes[1:] {
		if n.Depth < 1 || n.Depth > most {
			return false
		}
		most = deepestBehind(n)
	}
	return true
}

// deepestBehind tells how deep the node behind this one may be.
func deepestBehind(n api.Node) int {
	if n.Kind == api.NkText {
		return n.Depth
	}
	return min(n.Depth+1, api.MaxDeep-1)
}

// keysMay tells whether the keys of a document, of one node at least, are
// below its next one, and none comes twice.
func keysMay(d api.Doc) bool {
	keys := make([]int, len(d.Nodes))
	for at := range d.Nodes {
		keys[at] = d.Nodes[at].Key
	}
	slices.Sort(keys)
	least, greatest := keys[0], keys[len(keys)-1]
	return least >= 1 && greatest < d.Next && d.Next <= api.MaxKey+1 && len(slices.Compact(keys)) == len(d.Nodes)
}

// contentsMay tells whether each node may have what it has, and all texts
// together are short enough.
func contentsMay(nodes []api.Node) bool {
	all := 0
	for _, n := range nodes {
		if !contentMay(n) {
			return false
		}
		all += len(n.Text)
	}
	return all <= api.MaxTexts
}

func contentMay(n api.Node) bool {
	switch n.Kind {
	case api.NkBox:
		return n.Text == ""
	case api.NkText:
		return n.Style == api.Style{} && len(n.Text) <= api.MaxText
	}
	return false
}
