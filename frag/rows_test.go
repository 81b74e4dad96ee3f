package frag_test

import (
	"math"
	"math/rand"
	"slices"
	"strings"
	"testing"

	"windowpane/api"
	"windowpane/layout"
	"windowpane/mutate"
)

// deep tells fragments of these depths, of the keys 1 0, 2 0, and on.
func deep(depths ...int) []api.Frag {
	l := make([]api.Frag, len(depths))
	for i, depth := range depths {
		l[i] = api.Frag{Node: i + 1, Depth: depth}
	}
	return l
}

// flat tells the depths of a fragment and others below it, side by side, so
// many in all.
func flat(many int) []int {
	depths := make([]int, many)
	for i := 1; i < many; i++ {
		depths[i] = 1
	}
	return depths
}

// steep tells the depths of fragments below one another, so many in all.
func steep(many int) []int {
	depths := make([]int, many)
	for i := range depths {
		depths[i] = i
	}
	return depths
}

// saw tells depths that rise by one up to a most, and come back up by as many as
// there are, so many in all.
func saw(many, most int) []int {
	depths := make([]int, many)
	for i := 1; i < many; i++ {
		depths[i] = 1 + (i-1)%most
	}
	return depths
}

// with tells fragments of which one is otherwise.
func with(l []api.Frag, i int, change func(f *api.Frag)) []api.Frag {
	l = slices.Clone(l)
	change(&l[i])
	return l
}

// numbersOf tells where a fragment's numbers stand.
func numbersOf(f *api.Frag) []*int {
	return []*int{&f.Node, &f.Part, &f.Depth, &f.X, &f.Y, &f.W, &f.H}
}

// wild are numbers that a fragment may have and such as it may not.
var wild = []int{
	math.MinInt, math.MinInt + 1, -1 << 62, -1 << 41, -maxCoord - 1, -maxCoord, 1 - maxCoord, -1 << 32, -2049, -2048, -2, -1,
	0, 1, 2, 127, 128, 2047, 2048, 2049, 1 << 16, 1 << 32, 1<<32 + 1, maxCoord - 1, maxCoord, maxCoord + 1, 1 << 41, 1 << 62, math.MaxInt - 1, math.MaxInt,
}

func oneOf[T any](r *rand.Rand, l ...T) T { return l[r.Intn(len(l))] }

// someText tells a text of any bytes, by the seed.
func someText(r *rand.Rand) string {
	b := make([]byte, oneOf(r, 0, 0, 1, 2, 5, 30, 127, 128, 255, 256))
	r.Read(b)
	return string(b)
}

func someLength(r *rand.Rand) int {
	if r.Intn(6) == 0 {
		return oneOf(r, -maxCoord, 1-maxCoord, maxCoord-1, maxCoord)
	}
	return (r.Intn(1<<40) - r.Intn(1<<40)) >> r.Intn(40)
}

// someTree tells a tree of so many fragments, by the seed.
func someTree(r *rand.Rand, many int) []api.Frag {
	l := make([]api.Frag, 0, many)
	node, part := r.Intn(3), 0
	for i := range many {
		f := api.Frag{X: someLength(r), Y: someLength(r), W: someLength(r), H: someLength(r), Text: someText(r)}
		if part++; r.Intn(2) == 0 {
			node, part = node+1+r.Intn(1<<r.Intn(20)), 0
		}
		f.Node, f.Part = node, part
		if i > 0 {
			f.Depth = 1 + r.Intn(l[i-1].Depth+1)
		}
		l = append(l, f)
	}
	if r.Intn(5) == 0 {
		l[r.Intn(many)].Node = maxCoord
	}
	return l
}

// goOverShort hands over all rows of up to so many fragments of these kinds,
// their keys by how they come, or their own.
func goOverShort(many int, own bool, kinds []api.Frag, do func(l []api.Frag)) {
	var next func(l []api.Frag)
	next = func(l []api.Frag) {
		do(l)
		if len(l) == many {
			return
		}
		for _, f := range kinds {
			if !own {
				f.Node = len(l)
			}
			next(append(slices.Clip(l), f))
		}
	}
	next(nil)
}

func box(depth int, s api.Style) api.Node { return api.Node{Depth: depth, Style: s} }

func text(depth int, s string) api.Node {
	return api.Node{Depth: depth, Kind: api.NkText, Text: s}
}

// doc tells a document of these nodes, the keys of which count on from 1.
func doc(nodes ...api.Node) api.Doc {
	for i := range nodes {
		nodes[i].Key = i + 1
	}
	return api.Doc{Nodes: nodes, Next: len(nodes) + 1}
}

// someDoc tells a document of at most so many nodes, by the seed.
func someDoc(r *rand.Rand, most int) api.Doc {
	nodes := []api.Node{box(0, api.Style{Font: 1 + r.Intn(3)})}
	for many := 1 + r.Intn(most); len(nodes) < many; {
		last := nodes[len(nodes)-1]
		n := box(1+r.Intn(last.Depth+1), api.Style{Display: uint8(r.Intn(3)), OffX: r.Intn(99) - 50, Dir: uint8(r.Intn(4)), Grow: r.Intn(2)})
		if n.Style.Padding[r.Intn(4)] = r.Intn(20); n.Style.Display != api.DFlex {
			n.Style.Dir = 0
		}
		if r.Intn(2) == 0 {
			n = text(n.Depth, strings.Repeat(oneOf(r, "a", "ab ab ", "i WW", "\n ", "é "), r.Intn(6)))
		}
		if d := doc(append(slices.Clone(nodes), n)...); mutate.May(d) {
			nodes = d.Nodes
		}
	}
	return doc(nodes...)
}

// goOverLayouts hands over layouts of documents: of some that are written here,
// and of others by a fixed seed.
func goOverLayouts(t *testing.T, bySeed int, do func(l []api.Frag)) {
	t.Helper()
	many, small := 0, api.Style{Font: 1}
	hand := func(d api.Doc, wide int) {
		l, e := layout.Layout(d, wide)
		if e != api.OK {
			t.Fatalf("%s in %d: %d", brief(d), wide, e)
		}
		many += len(l)
		do(l)
	}
	for _, d := range []api.Doc{
		doc(box(0, api.Style{})),
		doc(box(0, api.Style{}), text(1, "one")),
		doc(box(0, small), text(1, "ab ab ab"), box(1, api.Style{Display: api.DInline, Padding: [4]int{1, 2, 3, 4}}), text(2, "i i"), text(1, " a")),
		doc(box(0, small), box(1, api.Style{Display: api.DFlex, Gap: 3}), box(2, api.Style{Grow: 1}), text(3, "a b c"), box(2, api.Style{}), box(1, api.Style{OffX: -90})),
		doc(box(0, small), text(1, strings.Repeat("a ", 100)), box(1, api.Style{Ws: api.WsKeep}), text(2, "a\n\n  b\n")),
		doc(slices.Concat([]api.Node{box(0, small)}, slices.Repeat([]api.Node{text(1, "a a a")}, 299))...),
	} {
		for _, wide := range []int{0, 1, 40, 100, 6400, api.MaxWidth} {
			hand(d, wide)
		}
	}
	r := rand.New(rand.NewSource(1))
	for range bySeed {
		hand(someDoc(r, 12), oneOf(r, 0, 50, 100, 300, 2000))
	}
	if many < 10*bySeed/3 {
		t.Errorf("only %d fragments", many)
	}
}
