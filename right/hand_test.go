package right_test

import (
	"fmt"
	"slices"
	"testing"

	"windowpane/api"
	"windowpane/layout"
	"windowpane/right"
	"windowpane/tree"
)

const (
	maxCoord  = 1 << 40
	maxLength = 1 << 38
	maxWidth  = 1 << 31
)

// fields writes all of a fragment, field by field.
func fields(f api.Frag) string {
	return fmt.Sprintf("%d.%d %d: %d %d %d %d %q", f.Node, f.Part, f.Depth, f.X, f.Y, f.W, f.H, f.Text)
}

// handWrong tells the first place at which fragments are wrong: how many of the
// first ones of both are the same, unless that is all of both.
func handWrong(d api.Doc, wide int, l []api.Frag) (int, api.Errno) {
	want, e := layout.Layout(d, wide)
	if e != api.OK {
		return 0, e
	}
	same := 0
	for same < len(l) && same < len(want) && fields(l[same]) == fields(want[same]) {
		same++
	}
	if same == len(l) && same == len(want) {
		return -1, api.OK
	}
	return same, api.OK
}

// within tells whether a point is from a place on up to that and a size, by what
// comes to be in 64 bits.
func within(at, from, size int) bool { return at >= from && at < int(uint64(from)+uint64(size)) }

func covers(f api.Frag, x, y int) bool { return within(x, f.X, f.W) && within(y, f.Y, f.H) }

// handHit goes over all fragments from the first one on, and notes each one that
// covers the point.
func handHit(l []api.Frag, x, y int) int {
	hit := -1
	for i, f := range l {
		if covers(f, x, y) {
			hit = i
		}
	}
	return hit
}

func isLength(n int) bool { return -maxCoord <= n && n <= maxCoord }

// handFill gathers all edges of fragments that have a width and a height, and
// takes the outermost ones.
func handFill(l []api.Frag) [4]int {
	var across, down []int
	for _, f := range l {
		if !isLength(f.X) || !isLength(f.Y) || !isLength(f.W) || !isLength(f.H) {
			return [4]int{}
		}
		if f.W > 0 && f.H > 0 {
			across, down = append(across, f.X, f.X+f.W), append(down, f.Y, f.Y+f.H)
		}
	}
	if len(across) == 0 {
		return [4]int{}
	}
	slices.Sort(across)
	slices.Sort(down)
	last := len(across) - 1
	return [4]int{across[0], down[0], across[last] - across[0], down[last] - down[0]}
}

// piece tells fragments as a piece of a longer row, and what asks whether that
// has stayed as it was.
func piece(l []api.Frag) (in []api.Frag, stays func() bool) {
	other := api.Frag{Node: 9, Part: 8, Depth: 7, X: -6, Y: 5, W: 4, H: 3, Text: "behind"}
	all := append(slices.Clone(l), other, other)
	before := slices.Clone(all)
	return all[:len(l)], func() bool { return slices.Equal(all, before) }
}

// checkWrong holds IsLayout and Wrong against the chapter's words by hand, and
// tells what is wrong.
func checkWrong(t *testing.T, d api.Doc, wide int, l []api.Frag) (int, api.Errno) {
	t.Helper()
	in, stays := piece(l)
	nodes := append(slices.Clone(d.Nodes), api.Node{Key: 77, Text: "behind"})
	one := api.Doc{Nodes: nodes[:len(d.Nodes)], Next: d.Next}
	before := tree.Copy(api.Doc{Nodes: nodes, Next: d.Next})
	at, e := right.Wrong(one, wide, in)
	want, wantE := handWrong(d, wide, l)
	if at != want || e != wantE {
		t.Fatalf("%s\nin %d, Wrong of %s: %d (%d), not %d (%d)", written(d), wide, told(l), at, e, want, wantE)
	}
	if got := right.IsLayout(one, wide, in); got != (at == -1) {
		t.Fatalf("%s\nin %d, IsLayout of %s: %v", written(d), wide, told(l), got)
	}
	if !stays() || !tree.Same(api.Doc{Nodes: nodes, Next: one.Next}, before) {
		t.Fatalf("%s\nin %d: what was handed in was changed", written(d), wide)
	}
	return at, e
}

// checkHit holds Hit against the chapter's words by hand, and tells the place.
func checkHit(t *testing.T, l []api.Frag, x, y int) int {
	t.Helper()
	in, stays := piece(l)
	got := right.Hit(in, x, y)
	if want := handHit(l, x, y); got != want {
		t.Fatalf("Hit of %d, %d in %s: %d, not %d", x, y, told(l), got, want)
	}
	if !stays() {
		t.Fatalf("Hit of %d, %d: %s were changed", x, y, told(l))
	}
	return got
}

// checkFill holds Fill against the chapter's words by hand, and tells the
// rectangle.
func checkFill(t *testing.T, l []api.Frag) [4]int {
	t.Helper()
	in, stays := piece(l)
	x, y, w, h := right.Fill(in)
	got := [4]int{x, y, w, h}
	if want := handFill(l); got != want {
		t.Fatalf("Fill of %s: %v, not %v", told(l), got, want)
	}
	if !stays() {
		t.Fatalf("Fill: %s were changed", told(l))
	}
	return got
}
