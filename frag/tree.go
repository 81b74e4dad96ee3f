package frag

import (
	"iter"
	"slices"

	"windowpane/api"
)

// from tells fragments with their numbers, from that number on.
func from(l []api.Frag, first int) iter.Seq2[int, api.Frag] {
	return func(yield func(int, api.Frag) bool) {
		for at := first; at < len(l); at++ {
			if !yield(at, l[at]) {
				return
			}
		}
	}
}

// ahead tells the fragments ahead of the one with that number, the nearest one
// first.
func ahead(l []api.Frag, i int) iter.Seq2[int, api.Frag] {
	return func(yield func(int, api.Frag) bool) {
		for at := i - 1; at >= 0; at-- {
			if !yield(at, l[at]) {
				return
			}
		}
	}
}

// isOfTree tells whether there is a fragment with that number, of a tree.
func isOfTree(l []api.Frag, i int) bool { return i >= 0 && i < len(l) && Check(l) == api.OK }

// isTree tells whether fragments are a tree, however many they are.
func isTree(l []api.Frag) bool {
	times := make(map[[2]int]int, len(l))
	least, most := 0, 0
	for _, f := range from(l, 0) {
		times[keyOf(f)]++
		if !May(f) || !within(least, most, f.Depth) || times[keyOf(f)] > 1 {
			return false
		}
		least, most = 1, f.Depth+1
	}
	return len(l) > 0
}

func keyOf(f api.Frag) [2]int { return [2]int{f.Node, f.Part} }

// within tells whether all numbers, of which there is one at least, are from
// the least to the most.
func within(least, most int, numbers ...int) bool {
	return slices.Min(numbers) >= least && slices.Max(numbers) <= most
}
