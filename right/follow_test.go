package right_test

import (
	"math/rand"
	"strings"
	"testing"

	"windowpane/api"
	"windowpane/tree"
)

// goOverLayouts hands over documents with their layouts: some, all short ones of
// some kinds of nodes, and others by fixed seeds.
func goOverLayouts(t *testing.T, do func(d api.Doc, wide int, l []api.Frag)) {
	goOverDocs(t, 4000, do)
	goOverShort(3, []string{"[font=1]", "[font=1 p=3 ws=stay]"},
		[]string{"'a i'", "' a'", "'a '", "[h=5]", "[d=inline w=20]", "[pt=2 bb=3]", "[d=flex]"},
		func(d api.Doc) { do(d, 70, laid(t, d, 70)) })
}

// plain tells a document without margins above and below, and without offsets.
func plain(d api.Doc) api.Doc {
	d = tree.Copy(d)
	for i := range d.Nodes {
		s := &d.Nodes[i].Style
		s.Margin[api.Top], s.Margin[api.Bottom] = api.Length{}, api.Length{}
		s.OffX, s.OffY = 0, 0
	}
	return d
}

// fragOf tells the fragment of a box.
func fragOf(l []api.Frag, n api.Node) api.Frag {
	for _, f := range l {
		if f.Node == n.Key && f.Part == 0 {
			return f
		}
	}
	panic("no fragment")
}

func stands(n api.Node) bool { return n.Kind == api.NkBox && n.Style.Display != api.DInline }

func asksForHeight(s api.Style) bool {
	return s.Height.Kind != api.LAuto || s.MinH.Kind != api.LAuto || s.MaxH.Kind != api.LAuto
}

// P19.6: boxes below one another, without margins above and below and offsets,
// stand so without a gap, the first one where its parent's content begins; the
// content of their parent, if it asks for no height, ends where the last one
// does.
func TestInTheFlow(t *testing.T) {
	first, behind, last := 0, 0, 0
	goOverLayouts(t, func(d api.Doc, wide int, _ []api.Frag) {
		d = plain(d)
		l := laid(t, d, wide)
		for at, n := range d.Nodes {
			kids := tree.Kids(d, at)
			if n.Kind != api.NkBox || n.Style.Display == api.DFlex || len(kids) == 0 {
				continue
			}
			s, box := n.Style, fragOf(l, n)
			ends, known := box.Y+s.Padding[api.Top]+s.Border[api.Top], true
			for i, kid := range kids {
				if !stands(d.Nodes[kid]) {
					known = false
					continue
				}
				f := fragOf(l, d.Nodes[kid])
				if known && f.Y != ends {
					t.Fatalf("%s in %d: %d at %d, not %d, in %s", written(d), wide, f.Node, f.Y, ends, told(l))
				}
				if known && i == 0 {
					first++
				} else if known {
					behind++
				}
				ends, known = f.Y+f.H, true
			}
			kidOfFlex := at > 0 && d.Nodes[tree.Parent(d, at)].Style.Display == api.DFlex
			if known && !asksForHeight(s) && !kidOfFlex {
				if got := box.Y + box.H - s.Padding[api.Bottom] - s.Border[api.Bottom]; got != ends {
					t.Fatalf("%s in %d: %d ends at %d, not %d, in %s", written(d), wide, n.Key, got, ends, told(l))
				}
				last++
			}
		}
	})
	if first < 3000 || behind < 1000 || last < 2000 {
		t.Errorf("only %d first ones, %d behind others, %d last ones", first, behind, last)
	}
}

// P19.7: a text's parts stand one below the other; where blanks are one, none
// but the first begins with one, none but the last ends with one.
func TestInLines(t *testing.T) {
	below, blanks := 0, 0
	goOverLayouts(t, func(d api.Doc, wide int, l []api.Frag) {
		for i, f := range l[1:] {
			ahead := l[i]
			if f.Part < 2 {
				continue
			}
			if ahead.Node != f.Node || ahead.Part != f.Part-1 || f.Y < ahead.Y+ahead.H || f.Depth != ahead.Depth {
				t.Fatalf("%s in %d: %d.%d in %s", written(d), wide, f.Node, f.Part, told(l))
			}
			below++
			at := tree.Find(d, f.Node)
			if d.Nodes[tree.Parent(d, at)].Style.Ws != api.WsNormal {
				continue
			}
			if strings.HasPrefix(f.Text, " ") || strings.HasSuffix(ahead.Text, " ") {
				t.Fatalf("%s in %d: %d.%d in %s", written(d), wide, f.Node, f.Part, told(l))
			}
			blanks++
		}
	})
	if below < 2000 || blanks < 1000 {
		t.Errorf("only %d below others, %d without blanks", below, blanks)
	}
}

// P19.7: the first part may begin with a blank, the last one end with one, beside
// boxes in lines.
func TestBlanks(t *testing.T) {
	d := doc("[font=1 [d=inline w=5] ' a i ' [d=inline w=6]]")
	if got := told(laid(t, d, 75)); got != "1.0 0 0 75 160; 2.0 0 60 5 0; 3.1 5 0 48 80 ' a'; 3.2 0 80 32 80 'i '; 4.0 32 140 6 0" {
		t.Error(got)
	}
}

// P19.3, P19.4, P19.8: layouts: points at each fragment's corners and edges, one
// within and one without.
func TestHitLayouts(t *testing.T) {
	r := rand.New(rand.NewSource(9))
	hit, missed := 0, 0
	goOverDocs(t, 1500, func(d api.Doc, wide int, l []api.Frag) {
		filled := checkFill(t, l)
		for _, f := range l {
			for _, x := range []int{f.X - 1, f.X, f.X + f.W/2, f.X + f.W - 1, f.X + f.W} {
				for _, y := range []int{f.Y - 1, f.Y, f.Y + f.H/2, f.Y + f.H - 1, f.Y + f.H} {
					at := checkHit(t, l, x, y)
					follows(t, l, x, y, at, filled)
					if at >= 0 {
						hit++
					} else {
						missed++
					}
				}
			}
			x, y := r.Intn(400)-200, r.Intn(400)-200
			follows(t, l, x, y, checkHit(t, l, x, y), filled)
		}
	})
	if hit < 30000 || missed < 30000 {
		t.Errorf("only %d hit, %d missed", hit, missed)
	}
}
