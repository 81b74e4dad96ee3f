package right

import (
	"iter"

	"windowpane/api"
)

// fromBehind tells fragments with their places, the last one first.
func fromBehind(l []api.Frag) iter.Seq2[int, api.Frag] {
	return func(yield func(int, api.Frag) bool) {
		for at := len(l) - 1; at >= 0; at-- {
			if !yield(at, l[at]) {
				return
			}
		}
	}
}

// lastOf tells the place of the last fragment of which what is asked holds.
func lastOf(l []api.Frag, holds func(api.Frag) bool) int {
	for at, f := range fromBehind(l) {
		if holds(f) {
			return at
		}
	}
	return none
}

// firstOther tells the first place at which two rows of fragments differ: behind
// the shorter one, if it begins the other one.
func firstOther(a, b []api.Frag) int {
	short := min(len(a), len(b))
	for at := range short {
		if a[at] != b[at] {
			return at
		}
	}
	if len(a) != len(b) {
		return short
	}
	return none
}
