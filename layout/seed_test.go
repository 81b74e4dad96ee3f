package layout_test

import (
	"math/rand"
	"slices"
	"strings"
	"testing"

	"windowpane/api"
	"windowpane/layout"
	"windowpane/mutate"
)

// oneOf tells one of some things.
func oneOf[T any](r *rand.Rand, l ...T) T { return l[r.Intn(len(l))] }

// seeds says what documents by seeds are like: how great their numbers are.
type seeds struct {
	*rand.Rand
	great bool
}

func (r seeds) size(most int) int {
	if r.great && r.Intn(3) == 0 {
		return oneOf(r.Rand, maxLength, maxLength-1, maxLength/2, maxLength-r.Intn(100))
	}
	return r.Intn(most)
}

func (r seeds) margin(most int) int {
	if r.Intn(3) == 0 {
		return -r.size(most)
	}
	return r.size(most)
}

// length tells a length that isn't none; a part, if one may be.
func (r seeds) length(size int, part bool) api.Length {
	if part && r.Intn(3) == 0 {
		if r.great {
			return api.Length{Kind: api.LPart, N: r.Intn(100001)}
		}
		return api.Length{Kind: api.LPart, N: r.Intn(12000)}
	}
	return api.Length{Kind: api.LFixed, N: size}
}

// style tells a style that may be; most of its fields are 0.
func (r seeds) style(flexible bool) api.Style {
	s := api.Style{Display: oneOf(r.Rand, api.DBlock, api.DBlock, api.DInline, api.DFlex), Shrink: r.Intn(2), Grow: r.Intn(2) * r.Intn(3)}
	if !flexible && s.Display == api.DFlex {
		s.Display = api.DInline
	}
	sides := []int{api.Top, api.Right, api.Bottom, api.Left}
	for _, set := range []func(){
		func() { s.Whole = true },
		func() { s.Width = r.length(r.size(150), true) },
		func() { s.Width = r.length(r.size(150), true) },
		func() { s.MinW = r.length(r.size(90), true) },
		func() { s.MaxW = r.length(r.size(150), true) },
		func() { s.Height = r.length(r.size(150), false) },
		func() { s.MinH = r.length(r.size(90), false) },
		func() { s.MaxH = r.length(r.size(150), false) },
		func() { s.Margin[oneOf(r.Rand, sides...)] = r.length(r.margin(40), false) },
		func() { s.Margin[oneOf(r.Rand, sides...)] = r.length(r.margin(40), false) },
		func() { s.Margin[oneOf(r.Rand, sides...)] = r.length(r.margin(40), true) },
		func() { s.Padding[oneOf(r.Rand, sides...)] = r.size(15) },
		func() { s.Border[oneOf(r.Rand, sides...)] = r.size(9) },
		func() { s.OffX = r.margin(50) },
		func() { s.OffY = r.margin(50) },
		func() { s.Font = 1 + r.Intn(3) },
		func() { s.Ws = uint8(r.Intn(3)) },
		func() { s.Lines = uint8(r.Intn(3)) },
		func() { s.Valign = uint8(r.Intn(3)) },
		func() { s.Basis = r.length(r.size(90), true) },
		func() { s.Order = r.Intn(5) - 2 },
	} {
		if r.Intn(5) == 0 {
			set()
		}
	}
	if s.Display == api.DFlex {
		s.Dir, s.Justify, s.Wrap = uint8(r.Intn(4)), uint8(r.Intn(5)), r.Intn(2) == 0
		s.Align = oneOf(r.Rand, api.AtStart, api.AtEnd, api.AtMiddle, api.Stretch, api.Stretch)
		s.Gap, s.LineGap = r.Intn(2)*r.size(20), r.Intn(2)*r.size(20)
	}
	return s
}

func (r seeds) text() string {
	var b strings.Builder
	for range r.Intn(4) * r.Intn(3) {
		b.WriteString(oneOf(r.Rand, "a", "i", "WW", " ", " ", "\n", "  \n", "b c", "\u65e5", "\xff"))
	}
	return b.String()
}

// doc tells a document that may be, of at most so many nodes.
func (r seeds) doc(most int) api.Doc {
	root := api.Node{Key: 3, Style: r.style(true)}
	root.Style.Font = 1
	d := api.Doc{Nodes: []api.Node{root}}
	// Of the boxes above the next node: whether each is flexible, and how many
	// of them are.
	for many := 1 + r.Intn(most); len(d.Nodes) < many; {
		n := api.Node{Key: 3 + 7*len(d.Nodes), Kind: uint8(r.Intn(2))}
		last := d.Nodes[len(d.Nodes)-1]
		n.Depth = 1 + r.Intn(last.Depth+1)
		if last.Kind == api.NkBox && r.Intn(2) == 0 {
			n.Depth = last.Depth + 1
		}
		if n.Kind == api.NkText {
			n.Text = r.text()
		} else {
			n.Style = r.style(r.Intn(3) > 0)
		}
		one := api.Doc{Nodes: append(slices.Clone(d.Nodes), n), Next: n.Key + 1}
		if mutate.May(one) {
			d = one
		}
	}
	d.Next = d.Nodes[len(d.Nodes)-1].Key + 1
	return d
}

// goOverSeeds hands over documents by a fixed seed, with widths around.
func goOverSeeds(seed int64, many, most int, great bool, do func(r seeds, d api.Doc, wide int)) {
	r := seeds{rand.New(rand.NewSource(seed)), great}
	for range many {
		wide := oneOf(r.Rand, 0, 1, 50, 100, 100, 200, 1000, r.Intn(300))
		if great && r.Intn(3) == 0 {
			wide = maxWidth - r.Intn(2)
		}
		do(r, r.doc(most), wide)
	}
}

// P18.1 to P18.3: documents by fixed seeds, with small numbers, and with such as
// come near the bound, against the chapter's words by hand.
func TestSeeds(t *testing.T) {
	for seed, great := range []bool{false, true} {
		laid, refused, frags, parts, contents, noContents := 0, 0, 0, 0, 0, 0
		goOverSeeds(int64(seed), 6000, 14, great, func(r seeds, d api.Doc, wide int) {
			l, e := check(t, d, wide)
			if e == api.OK {
				laid++
			} else {
				refused++
			}
			for _, f := range l {
				frags++
				if f.Part > 1 {
					parts++
				}
			}
			around := wide
			if great && r.Intn(2) == 0 {
				around = oneOf(r.Rand, maxLength, maxCoord, maxCoord-1)
			}
			for _, n := range d.Nodes {
				if checkContents(t, d, n.Key, around) {
					noContents++
				} else {
					contents++
				}
			}
		})
		if laid < 5000 || frags < 30000 || parts < 1500 || contents < 20000 || great && (refused < 500 || noContents < 18000) {
			t.Errorf("only %d laid out, %d refused, %d fragments, %d parts, %d contents, %d none", laid, refused, frags, parts, contents, noContents)
		}
	}
}

// P18.1: documents of many nodes by a fixed seed.
func TestSeedsMany(t *testing.T) {
	frags := 0
	goOverSeeds(5, 60, 150, false, func(r seeds, d api.Doc, wide int) {
		l, _ := check(t, d, wide)
		frags += len(l)
	})
	if frags < 3000 {
		t.Errorf("only %d fragments", frags)
	}
}

// goOverShort hands over all documents of a root and up to many nodes of some
// kinds, which may be.
func goOverShort(many int, roots, kinds []string, do func(d api.Doc)) {
	var next func(nodes []api.Node)
	nodeOf := func(s string) api.Node { return doc("[" + s + "]").Nodes[1] }
	next = func(nodes []api.Node) {
		d := api.Doc{Nodes: nodes, Next: len(nodes) + 1}
		if !mutate.May(d) {
			return
		}
		do(d)
		if len(nodes) > many {
			return
		}
		for _, kind := range kinds {
			n := nodeOf(kind)
			n.Key = len(nodes) + 1
			for n.Depth = 1; n.Depth <= nodes[len(nodes)-1].Depth+1; n.Depth++ {
				next(append(slices.Clip(nodes), n))
			}
		}
	}
	for _, root := range roots {
		next(doc(root).Nodes)
	}
}

// P18.1 to P18.3: all short documents of some kinds of nodes, by hand.
func TestShort(t *testing.T) {
	many := 0
	goOverShort(3,
		[]string{"[font=1]", "[font=1 d=flex align=stretch gap=3]", "[font=1 d=flex dir=col h=90 just=evenly]", "[font=1 mt=3 d=inline lines=mid]"},
		[]string{
			"'a i'", "' '", "[mt=7 mb=9 ml=2]", "[h=5 mt=-4 w=20]", "[d=inline p=3]", "[d=inline w=5000/ v=top]",
			"[d=flex align=end grow=1 shrink=1 b=2]", "[d=flex dir=col grow=1 shrink=1 align=stretch maxh=30]",
		},
		func(d api.Doc) {
			for _, wide := range []int{0, 60, 100} {
				check(t, d, wide)
			}
			checkContents(t, d, 1+many%4, 70)
			many++
		})
	if many < 6000 {
		t.Errorf("only %d documents", many)
	}
}

// P18.1: as many nodes, and as deep, as there may be; as many flexible boxes
// within one another; as much text.
func TestMost(t *testing.T) {
	wide := doc("[font=1 " + strings.Repeat("[h=1]", api.MaxNodes-1) + "]")
	if l, _ := check(t, wide, 100); len(l) != api.MaxNodes || l[299].Y != 298 || l[0].H != 299 {
		t.Errorf("%d fragments: %s", len(l), told(l))
	}
	for _, open := range []string{"[p=1 ", "[d=inline p=1 ", "[h=5 mt=1 "} {
		deep := doc(strings.Repeat(open, api.MaxDeep) + strings.Repeat("]", api.MaxDeep))
		l, _ := check(t, deep, 100)
		if len(l) != api.MaxDeep || l[15].Depth != 15 {
			t.Errorf("%d fragments: %s", len(l), told(l))
		}
	}
	for _, open := range []string{"[d=flex align=stretch h=100 p=1 ", "[d=flex dir=col minh=20 grow=1 ", "[d=flex wrap dir=colback shrink=1 align=end h=3 p=1 "} {
		flexible := doc("[[font=1 " + strings.Repeat(open+"[w=1 h=2] ", api.MaxFlex) + "[['a a'] [] 'i']" + strings.Repeat("]", api.MaxFlex) + "]]")
		if l, _ := check(t, flexible, 40); len(l) < 2*api.MaxFlex+6 {
			t.Errorf("%d fragments: %s", len(l), told(l))
		}
	}
	kids := doc("[d=flex just=between " + strings.Repeat("[w=1 h=1 grow=1]", api.MaxNodes-1) + "]")
	if l, _ := check(t, kids, 299); len(l) != api.MaxNodes || l[299].X != 298 {
		t.Errorf("%d fragments: %s", len(l), told(l))
	}
	text := doc("[font=1 " + strings.Repeat("'"+strings.Repeat("i ", 100)+"'", 7) + "'" + strings.Repeat("i ", 50) + "']")
	if l, _ := check(t, text, 0); len(l) != 751 || l[750].Y != 749*80 || l[750].Part != 50 {
		t.Errorf("%d fragments: %s", len(l), told(l))
	}
	words := doc("[font=1000 '" + strings.Repeat("\u65e5", 66) + "']")
	if l, _ := check(t, words, maxWidth); l[1].W != 66*64000 {
		t.Error(told(l))
	}
	inline := doc("[font=1 " + strings.Repeat("[d=inline w=1 h=1]", api.MaxNodes-1) + "]")
	if l, _ := check(t, inline, 299); len(l) != api.MaxNodes || l[299].X != 298 {
		t.Errorf("%d fragments: %s", len(l), told(l))
	}
}

// P0.4: what is told is new memory, the spare room behind it too; what was told
// before stays, and so does a document that is laid out again.
func TestNewMemory(t *testing.T) {
	d := doc("[font=1 'a i' [d=flex [h=1] [h=2]] 'i']")
	d.Nodes = append(d.Nodes, d.Nodes...)[:len(d.Nodes)]
	first, _ := layout.Layout(d, 40)
	want := slices.Clone(first)
	second, _ := layout.Layout(d, 40)
	second = second[:cap(second)]
	for i := range second {
		second[i] = api.Frag{Node: -1, Text: "over"}
	}
	if !slices.Equal(first, want) {
		t.Errorf("%s, not %s", told(first), told(want))
	}
	d.Nodes[1].Text, d.Nodes[2].Style.Display = "i", api.DBlock
	if !slices.Equal(first, want) {
		t.Errorf("%s, not %s", told(first), told(want))
	}
	if spare := d.Nodes[len(d.Nodes) : 2*len(d.Nodes)]; spare[0].Key != 1 || spare[1].Text != "a i" {
		t.Error("the spare room was written to")
	}
}
