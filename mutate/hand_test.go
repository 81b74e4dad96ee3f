package mutate_test

import (
	"fmt"
	"math"
	"math/rand"
	"slices"
	"strings"
	"testing"

	"windowpane/api"
	"windowpane/mutate"
	"windowpane/style"
	"windowpane/tree"
)

// Here: documents, changes and answers by the chapter's words, for all tests.

const mostTold = 400 // bytes of a thing in what a test says

// far are numbers a long way from all keys and places, and such as are little
// ones in their lower 8, 16 or 32 bits.
var far = []int{
	math.MinInt, math.MinInt + 1, -1 << 62, -1 << 32, -1<<32 + 1, -api.MaxKey, -256, -2, -1, 255, 256, 257, 1 << 16, 1<<16 + 1,
	api.MaxKey - 1, api.MaxKey, api.MaxKey + 1, 1 << 31, 1<<31 + 1, 1 << 32, 1<<32 + 1, 1<<32 + 2, 1 << 62, math.MaxInt - 1, math.MaxInt,
}

// broken are styles that may not be.
var broken = []api.Style{
	{Display: 3}, {Ws: 3}, {Lines: api.Between}, {Align: api.Evenly}, {Justify: api.Stretch}, {Width: api.Length{N: 1}},
	{Height: api.Length{Kind: api.LPart, N: 1}}, {Padding: [4]int{0, 0, 0, -1}}, {Gap: api.MaxLength + 1}, {Font: 1001}, {Order: -1001},
}

// node is a box of that display; a text, of kind 't'; of the depth.
func node(key, depth int, kind byte) api.Node {
	n := api.Node{Key: key, Depth: depth}
	switch kind {
	case 'f':
		n.Style.Display = api.DFlex
	case 'i':
		n.Style.Display = api.DInline
	case 't':
		n.Kind = api.NkText
	}
	return n
}

// doc is a document, told by a word for each node: its depth, and b (a box), i
// (an inline one), f (a flexible one) or t (a text); of the keys 1, 2, 3, ..
func doc(words string) api.Doc {
	d := api.Doc{Next: 1}
	for _, word := range strings.Fields(words) {
		var depth int
		var kind byte
		if _, err := fmt.Sscanf(word, "%d%c", &depth, &kind); err != nil {
			panic(err)
		}
		d.Nodes = append(d.Nodes, node(d.Next, depth, kind))
		d.Next++
	}
	return d
}

// chain is a document of boxes each of which stands in the last one.
func chain(kinds string) api.Doc {
	d := api.Doc{Next: 1}
	for i := range len(kinds) {
		d.Nodes = append(d.Nodes, node(d.Next, i, kinds[i]))
		d.Next++
	}
	return d
}

// row is a document of a root and as many nodes below it.
func row(many int, kind byte) api.Doc {
	d := doc("0b")
	for range many {
		d.Nodes = append(d.Nodes, node(d.Next, 1, kind))
		d.Next++
	}
	return d
}

// texts is a document of a root and these texts below it.
func texts(l ...string) api.Doc {
	d := row(len(l), 't')
	for i, text := range l {
		d.Nodes[i+1].Text = text
	}
	return d
}

// with is a document in which something is otherwise.
func with(d api.Doc, change func(d *api.Doc)) api.Doc {
	d.Nodes = slices.Clone(d.Nodes)
	change(&d)
	return d
}

// words tells a document as doc is told it, with its keys.
func words(d api.Doc) string {
	var b strings.Builder
	for _, n := range d.Nodes {
		kind := "bif"[min(n.Style.Display, 2)]
		if n.Kind != api.NkBox {
			kind = 't'
		}
		fmt.Fprintf(&b, "%d:%d%c ", n.Key, n.Depth, kind)
	}
	return fmt.Sprintf("%snext %d", b.String(), d.Next)
}

// brief tells how something begins that may be very long.
func brief(long string) string {
	if len(long) <= mostTold {
		return long
	}
	return long[:mostTold] + ".."
}

func told(c api.Change) string {
	return brief(fmt.Sprintf("kind %d key %d parent %d at %d node %v", c.Kind, c.Key, c.Parent, c.At, c.Node))
}

// twig is a node and what stands below it.
type twig struct {
	node api.Node
	kids []*twig
}

// grow makes twigs of a document with a shape.
func grow(d api.Doc) *twig {
	last := map[int]*twig{}
	for _, n := range d.Nodes {
		x := &twig{node: n}
		if over := last[n.Depth-1]; over != nil {
			over.kids = append(over.kids, x)
		}
		last[n.Depth] = x
	}
	return last[0]
}

// list is all nodes of a twig that stands so deep.
func (x *twig) list(depth int) []api.Node {
	n := x.node
	n.Depth = depth
	l := []api.Node{n}
	for _, kid := range x.kids {
		l = append(l, kid.list(depth+1)...)
	}
	return l
}

// seek is the twig of that key, in this one; nil, if there is none.
func (x *twig) seek(key int) *twig {
	if x.node.Key == key {
		return x
	}
	for _, kid := range x.kids {
		if found := kid.seek(key); found != nil {
			return found
		}
	}
	return nil
}

// over is the twig whose kid that one is, in this one.
func (x *twig) over(kid *twig) *twig {
	if slices.Contains(x.kids, kid) {
		return x
	}
	for _, one := range x.kids {
		if found := one.over(kid); found != nil {
			return found
		}
	}
	return nil
}

func (x *twig) is(kind uint8) bool { return x != nil && x.node.Kind == kind }

// leave takes a kid away.
func (x *twig) leave(kid *twig) {
	x.kids = slices.DeleteFunc(x.kids, func(one *twig) bool { return one == kid })
}

// mayByHand asks the words of documents that may be, node by node.
func mayByHand(d api.Doc) bool {
	if !tree.May(d) {
		return false
	}
	for at, n := range d.Nodes {
		flexible := 0
		for up := tree.Parent(d, at); up >= 0; up = tree.Parent(d, up) {
			if d.Nodes[up].Kind == api.NkBox && d.Nodes[up].Style.Display == api.DFlex {
				flexible++
			}
		}
		switch {
		case n.Kind == api.NkBox && !style.May(n.Style):
			return false
		case n.Kind == api.NkBox && n.Style.Display == api.DFlex && flexible >= 6:
			return false
		case n.Kind == api.NkText && d.Nodes[tree.Parent(d, at)].Style.Display == api.DFlex:
			return false
		}
	}
	return true
}

// fitsByHand asks the words of changes that fit a document that may be.
func fitsByHand(root *twig, c api.Change) bool {
	named, parent := root.seek(c.Key), root.seek(c.Parent)
	switch c.Kind {
	case 1:
		return parent.is(0) && c.At >= 0 && c.At <= len(parent.kids) && (c.Node.Kind == 0 || c.Node.Kind == 1)
	case 2:
		return named != nil && named != root
	case 3:
		if named == nil || named == root || !parent.is(0) || named.seek(c.Parent) != nil {
			return false
		}
		most := len(parent.kids)
		if slices.Contains(parent.kids, named) {
			most--
		}
		return c.At >= 0 && c.At <= most
	case 4:
		return named.is(0)
	case 5:
		return named.is(1)
	}
	return false
}

// doneByHand does what a change that fits says.
func doneByHand(d api.Doc, c api.Change) api.Doc {
	root := grow(d)
	named, parent := root.seek(c.Key), root.seek(c.Parent)
	switch c.Kind {
	case 1:
		n := api.Node{Key: d.Next, Kind: c.Node.Kind}
		if n.Kind == api.NkBox {
			n.Style = c.Node.Style
		} else {
			n.Text = c.Node.Text
		}
		parent.kids = slices.Insert(parent.kids, c.At, &twig{node: n})
		d.Next++
	case 2:
		root.over(named).leave(named)
	case 3:
		root.over(named).leave(named)
		parent.kids = slices.Insert(parent.kids, c.At, named)
	case 4:
		named.node.Style = c.Node.Style
	case 5:
		named.node.Text = c.Node.Text
	}
	return api.Doc{Nodes: root.list(0), Next: d.Next}
}

// applyByHand tells what the chapter's words say of a change.
func applyByHand(d api.Doc, c api.Change) (api.Doc, api.Errno) {
	if !mayByHand(d) {
		return api.Doc{}, api.ErrDoc
	}
	if !fitsByHand(grow(d), c) {
		return api.Doc{}, api.ErrChange
	}
	counts := c.Kind == 4 || c.Kind == 1 && c.Node.Kind == api.NkBox
	if counts && !style.May(c.Node.Style) {
		return api.Doc{}, api.ErrStyle
	}
	came := doneByHand(d, c)
	if !mayByHand(came) {
		return api.Doc{}, api.ErrFull
	}
	return came, api.OK
}

func checkMay(t *testing.T, d api.Doc, want bool) {
	t.Helper()
	if got := mutate.May(d); got != want {
		t.Fatalf("may %s: %v, not %v", brief(words(d)), got, want)
	}
}

// checkApply holds an answer against what is wanted; beside an error nothing
// is told.
func checkApply(t *testing.T, d api.Doc, c api.Change, want api.Doc, wantE api.Errno) {
	t.Helper()
	kept := api.Doc{Nodes: slices.Clone(d.Nodes), Next: d.Next}
	got, e := mutate.Apply(d, c)
	if e != wantE || !tree.Same(got, want) {
		t.Fatalf("%s, %s: %s, error %d, not %s, error %d", brief(words(d)), told(c), brief(words(got)), e, brief(words(want)), wantE)
	}
	if e != api.OK && (got.Nodes != nil || got.Next != 0) {
		t.Fatalf("%s, %s: error %d beside %s", brief(words(d)), told(c), e, brief(words(got)))
	}
	if !tree.Same(d, kept) {
		t.Fatalf("%s: handed in %s, left as %s", told(c), brief(words(kept)), brief(words(d)))
	}
}

// checkRefused holds that a change tells just that error.
func checkRefused(t *testing.T, d api.Doc, c api.Change, want api.Errno) {
	t.Helper()
	checkApply(t, d, c, api.Doc{}, want)
}

// checkByHand holds an answer against the chapter's words.
func checkByHand(t *testing.T, d api.Doc, c api.Change) api.Errno {
	t.Helper()
	want, e := applyByHand(d, c)
	checkApply(t, d, c, want, e)
	return e
}

// mustApply is what comes of a change that is to be done.
func mustApply(t *testing.T, d api.Doc, c api.Change) api.Doc {
	t.Helper()
	came, e := mutate.Apply(d, c)
	if e != api.OK {
		t.Fatalf("%s, %s: error %d", brief(words(d)), told(c), e)
	}
	return came
}

// some is a document that may be, by the seed, of so many nodes.
func some(r *rand.Rand, many int) api.Doc {
	root := &twig{node: api.Node{Key: 1, Style: someStyle(r)}}
	d := api.Doc{Nodes: root.list(0), Next: 2}
	for len(d.Nodes) < many {
		n := api.Node{Kind: uint8(r.Intn(3) / 2), Style: someStyle(r), Text: someText(r)}
		l := grow(d)
		parent := l.seek(d.Nodes[r.Intn(len(d.Nodes))].Key)
		c := api.Change{Kind: api.ChInsert, Parent: parent.node.Key, At: r.Intn(len(parent.kids) + 1), Node: n}
		if came, e := applyByHand(d, c); e == api.OK {
			d = came
			d.Next += r.Intn(2)
		}
	}
	r.Shuffle(len(d.Nodes), func(i, j int) { d.Nodes[i].Key, d.Nodes[j].Key = d.Nodes[j].Key, d.Nodes[i].Key })
	return d
}

// someStyle is a style that may be, by the seed.
func someStyle(r *rand.Rand) api.Style {
	return api.Style{Display: uint8(r.Intn(3)), Padding: [4]int{r.Intn(3)}, Order: r.Intn(5) - 2, Wrap: r.Intn(2) == 0}
}

func someText(r *rand.Rand) string { return strings.Repeat("x", r.Intn(5)) }

// someChange is a change, by the seed, that mostly fits that document.
func someChange(r *rand.Rand, d api.Doc) api.Change {
	key := func() int {
		switch r.Intn(20) {
		case 0:
			return far[r.Intn(len(far))]
		case 1:
			return r.Intn(d.Next + 2)
		}
		return d.Nodes[r.Intn(len(d.Nodes))].Key
	}
	c := api.Change{Kind: uint8(1 + r.Intn(5)), Key: key(), Parent: key()}
	if r.Intn(20) == 0 {
		c.Kind = uint8(r.Intn(256))
	}
	c.At = r.Intn(len(tree.Kids(d, tree.Find(d, c.Parent)))+3) - 1
	c.Node = api.Node{Key: key(), Depth: r.Intn(20) - 2, Kind: uint8(r.Intn(2)), Style: someStyle(r), Text: someText(r)}
	switch r.Intn(20) {
	case 0:
		c.Node.Kind = uint8(r.Intn(256))
	case 1:
		c.Node.Style = broken[r.Intn(len(broken))]
	case 2:
		c.Node.Text = strings.Repeat("x", 150+r.Intn(100))
	case 3:
		c.At = far[r.Intn(len(far))]
	}
	return c
}
