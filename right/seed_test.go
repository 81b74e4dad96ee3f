package right_test

import (
	"math/rand"
	"slices"
	"strings"

	"windowpane/api"
	"windowpane/mutate"
)

// oneOf tells one of some things.
func oneOf[T any](r *rand.Rand, l ...T) T { return l[r.Intn(len(l))] }

// seeds says what documents by seeds are like: how great their numbers are.
type seeds struct {
	*rand.Rand
	great bool
}

func (r seeds) size(most int) int {
	if r.great && r.Intn(3) == 0 {
		return oneOf(r.Rand, maxLength, maxLength-1, maxLength/2, maxLength-r.Intn(100))
	}
	return r.Intn(most)
}

func (r seeds) margin(most int) int {
	if r.Intn(3) == 0 {
		return -r.size(most)
	}
	return r.size(most)
}

// length tells a length that isn't none; a part, if one may be.
func (r seeds) length(size int, part bool) api.Length {
	if part && r.Intn(3) == 0 {
		if r.great {
			return api.Length{Kind: api.LPart, N: r.Intn(100001)}
		}
		return api.Length{Kind: api.LPart, N: r.Intn(12000)}
	}
	return api.Length{Kind: api.LFixed, N: size}
}

// style tells a style that may be; most of its fields are 0.
func (r seeds) style(flexible bool) api.Style {
	s := api.Style{Display: oneOf(r.Rand, api.DBlock, api.DBlock, api.DInline, api.DFlex), Shrink: r.Intn(2), Grow: r.Intn(2) * r.Intn(3)}
	if !flexible && s.Display == api.DFlex {
		s.Display = api.DInline
	}
	sides := []int{api.Top, api.Right, api.Bottom, api.Left}
	for _, set := range []func(){
		func() { s.Whole = true },
		func() { s.Width = r.length(r.size(150), true) },
		func() { s.Width = r.length(r.size(150), true) },
		func() { s.MinW = r.length(r.size(90), true) },
		func() { s.MaxW = r.length(r.size(150), true) },
		func() { s.Height = r.length(r.size(150), false) },
		func() { s.MinH = r.length(r.size(90), false) },
		func() { s.MaxH = r.length(r.size(150), false) },
		func() { s.Margin[oneOf(r.Rand, sides...)] = r.length(r.margin(40), false) },
		func() { s.Margin[oneOf(r.Rand, sides...)] = r.length(r.margin(40), false) },
		func() { s.Margin[oneOf(r.Rand, sides...)] = r.length(r.margin(40), true) },
		func() { s.Padding[oneOf(r.Rand, sides...)] = r.size(15) },
		func() { s.Border[oneOf(r.Rand, sides...)] = r.size(9) },
		func() { s.OffX = r.margin(50) },
		func() { s.OffY = r.margin(50) },
		func() { s.Font = 1 + r.Intn(3) },
		func() { s.Ws = uint8(r.Intn(3)) },
		func() { s.Lines = uint8(r.Intn(3)) },
		func() { s.Valign = uint8(r.Intn(3)) },
		func() { s.Basis = r.length(r.size(90), true) },
		func() { s.Order = r.Intn(5) - 2 },
	} {
		if r.Intn(5) == 0 {
			set()
		}
	}
	if s.Display == api.DFlex {
		s.Dir, s.Justify, s.Wrap = uint8(r.Intn(4)), uint8(r.Intn(5)), r.Intn(2) == 0
		s.Align = oneOf(r.Rand, api.AtStart, api.AtEnd, api.AtMiddle, api.Stretch, api.Stretch)
		s.Gap, s.LineGap = r.Intn(2)*r.size(20), r.Intn(2)*r.size(20)
	}
	return s
}

func (r seeds) text() string {
	var b strings.Builder
	for range r.Intn(4) * r.Intn(3) {
		b.WriteString(oneOf(r.Rand, "a", "i", "WW", " ", " ", "\n", "  \n", "b c", "\u65e5", "\xff"))
	}
	return b.String()
}

// doc tells a document that may be, of at most so many nodes.
func (r seeds) doc(most int) api.Doc {
	root := api.Node{Key: 3, Style: r.style(true)}
	root.Style.Font = 1
	d := api.Doc{Nodes: []api.Node{root}}
	// Of the boxes above the next node: whether each is flexible, and how many
	// of them are.
	for many := 1 + r.Intn(most); len(d.Nodes) < many; {
		n := api.Node{Key: 3 + 7*len(d.Nodes), Kind: uint8(r.Intn(2))}
		last := d.Nodes[len(d.Nodes)-1]
		n.Depth = 1 + r.Intn(last.Depth+1)
		if last.Kind == api.NkBox && r.Intn(2) == 0 {
			n.Depth = last.Depth + 1
		}
		if n.Kind == api.NkText {
			n.Text = r.text()
		} else {
			n.Style = r.style(r.Intn(3) > 0)
		}
		one := api.Doc{Nodes: append(slices.Clone(d.Nodes), n), Next: n.Key + 1}
		if mutate.May(one) {
			d = one
		}
	}
	d.Next = d.Nodes[len(d.Nodes)-1].Key + 1
	return d
}

// goOverSeeds hands over documents by a fixed seed, with widths around.
func goOverSeeds(seed int64, many, most int, great bool, do func(r seeds, d api.Doc, wide int)) {
	r := seeds{rand.New(rand.NewSource(seed)), great}
	for range many {
		wide := oneOf(r.Rand, 0, 1, 50, 100, 100, 200, 1000, r.Intn(300))
		if great && r.Intn(3) == 0 {
			wide = maxWidth - r.Intn(2)
		}
		do(r, r.doc(most), wide)
	}
}

// goOverShort hands over all documents of a root and up to many nodes of some
// kinds, which may be.
func goOverShort(many int, roots, kinds []string, do func(d api.Doc)) {
	var next func(nodes []api.Node)
	nodeOf := func(s string) api.Node { return doc("[" + s + "]").Nodes[1] }
	next = func(nodes []api.Node) {
		d := api.Doc{Nodes: nodes, Next: len(nodes) + 1}
		if !mutate.May(d) {
			return
		}
		do(d)
		if len(nodes) > many {
			return
		}
		for _, kind := range kinds {
			n := nodeOf(kind)
			n.Key = len(nodes) + 1
			for n.Depth = 1; n.Depth <= nodes[len(nodes)-1].Depth+1; n.Depth++ {
				next(append(slices.Clip(nodes), n))
			}
		}
	}
	for _, root := range roots {
		next(doc(root).Nodes)
	}
}
