package layout_test

import (
	"strings"
	"testing"

	"windowpane/api"
	"windowpane/breaks"
	"windowpane/layout"
	"windowpane/tree"
	"windowpane/width"
)

// goOver hands over documents with their layouts in a width: short ones, and
// such by fixed seeds.
func goOver(do func(d api.Doc, wide int, l []api.Frag)) {
	some := func(d api.Doc, wide int) {
		if l, e := layout.Layout(d, wide); e == api.OK {
			do(d, wide, l)
		}
	}
	for seed := range int64(4) {
		goOverSeeds(10+seed, 2000, 12, seed == 0, func(_ seeds, d api.Doc, wide int) { some(d, wide) })
	}
	goOverShort(2, []string{"[font=1]", "[font=1 ws=keep]", "[font=1 ws=stay d=flex]"},
		[]string{"'a i'", "' a '", "'~a~ a~'", "[h=1]", "[d=inline]", "[ws=keep]", "[d=flex]"},
		func(d api.Doc) { some(d, 40) })
}

// P18.4: a layout is a tree of fragments: the first one alone is of Depth 0,
// each later one at most one deeper than that ahead of it; no key comes twice;
// there are at most MaxFrags, numbers are lengths, texts aren't too long.
func TestTree(t *testing.T) {
	many := 0
	goOver(func(d api.Doc, wide int, l []api.Frag) {
		type key struct{ node, part int }
		keys := map[key]int{}
		for i, f := range l {
			may := f.Depth >= 1
			if i == 0 {
				may = f.Depth == 0
			} else if f.Depth > l[i-1].Depth+1 {
				may = false
			}
			if !may || f.Node < 1 || f.Part < 0 || len(f.Text) > api.MaxFragText || len(l) > api.MaxFrags ||
				max(f.X, f.Y, f.W, f.H) > maxCoord || min(f.X, f.Y, f.W, f.H) < -maxCoord || keys[key{f.Node, f.Part}] > 0 {
				t.Fatalf("%s in %d: %s", written(d), wide, told(l))
			}
			keys[key{f.Node, f.Part}]++
			many++
		}
	})
	if many < 30000 {
		t.Errorf("only %d fragments", many)
	}
}

// without tells what is behind a part of what is shown, but for what may be
// left out ahead of it; no, if the part doesn't come there.
func without(shown, part, out string) (rest string, is bool) {
	for {
		if rest, is := strings.CutPrefix(shown, part); is {
			return rest, true
		}
		if shown == "" || !strings.Contains(out, shown[:1]) {
			return "", false
		}
		shown = shown[1:]
	}
}

// P18.4: each box has one fragment, of Part 0, without a text, as deep as it
// stands; a text's parts, from 1 on, are what is shown of it, but for blanks
// and lines' ends at lines' edges; all in the document's order.
func TestAllIsThere(t *testing.T) {
	texts, parts, left := 0, 0, 0
	goOver(func(d api.Doc, wide int, l []api.Frag) {
		rest := l
		for at, n := range d.Nodes {
			var mine []api.Frag
			for len(rest) > 0 && rest[0].Node == n.Key {
				mine, rest = append(mine, rest[0]), rest[1:]
				if mine[0].Depth != n.Depth {
					t.Fatalf("%s in %d: %s", written(d), wide, told(l))
				}
			}
			if n.Kind == api.NkBox {
				if len(mine) != 1 || mine[0].Part != 0 || mine[0].Text != "" {
					t.Fatalf("%s in %d: box %d: %s", written(d), wide, n.Key, told(l))
				}
				continue
			}
			ws := d.Nodes[tree.Parent(d, at)].Style.Ws
			shown, is := breaks.Shown(n.Text, ws), true
			out := [...]string{api.WsNormal: " ", api.WsStay: "", api.WsKeep: "\n"}[ws]
			for i, f := range mine {
				if shown, is = without(shown, f.Text, out); !is || f.Part != i+1 || f.Text == "" {
					t.Fatalf("%s in %d: text %d: %s", written(d), wide, n.Key, told(l))
				}
			}
			if strings.Trim(shown, out) != "" {
				t.Fatalf("%s in %d: text %d: %q is left of %s", written(d), wide, n.Key, shown, told(l))
			}
			texts, parts, left = texts+1, parts+len(mine), left+len(shown)
		}
		if len(rest) > 0 {
			t.Fatalf("%s in %d: %s", written(d), wide, told(l))
		}
	})
	if texts < 5000 || parts < 8000 || left < 1000 {
		t.Errorf("only %d texts, %d parts, %d bytes left", texts, parts, left)
	}
}

// fragOf tells the fragment of the box at that place.
func fragOf(d api.Doc, l []api.Frag, at int) api.Frag {
	for _, f := range l {
		if f.Node == d.Nodes[at].Key {
			return f
		}
	}
	panic("no fragment")
}

func across(s api.Style) int {
	return s.Padding[api.Left] + s.Padding[api.Right] + s.Border[api.Left] + s.Border[api.Right]
}

// P18.5: boxes below one another are, with their margins left and right, as wide
// as their parent's content, and stand by their left margin further in.
func TestInTheFlow(t *testing.T) {
	many := 0
	goOver(func(d api.Doc, wide int, l []api.Frag) {
		for at, n := range d.Nodes {
			parent := tree.Parent(d, at)
			if n.Kind != api.NkBox || n.Style.Display == api.DInline || parent < 0 || d.Nodes[parent].Style.Display == api.DFlex {
				continue
			}
			box, in, s := fragOf(d, l, at), fragOf(d, l, parent), d.Nodes[parent].Style
			content := in.W - across(s)
			asked, _ := width.Of(n.Style, content)
			left, mine, right, e := width.Solve(content, asked)
			from := in.X + s.Padding[api.Left] + s.Border[api.Left]
			if e != api.OK || box.W != mine+across(n.Style) || left+box.W+right != content || box.X != from+left+n.Style.OffX {
				t.Fatalf("%s in %d: box %d: %s", written(d), wide, n.Key, told(l))
			}
			many++
		}
	})
	if many < 6000 {
		t.Errorf("only %d boxes", many)
	}
}

// P18.6: with another OffX and OffY at a box it and all that is in it stand
// elsewhere by just that; all else is the same.
func TestOtherOffsets(t *testing.T) {
	many := 0
	goOver(func(d api.Doc, wide int, l []api.Frag) {
		at := many % len(d.Nodes)
		many++
		if d.Nodes[at].Kind != api.NkBox {
			return
		}
		other := tree.Copy(d)
		other.Nodes[at].Style.OffX, other.Nodes[at].Style.OffY = 17, -1000
		byX, byY := 17-d.Nodes[at].Style.OffX, -1000-d.Nodes[at].Style.OffY
		in := map[int]int{}
		for _, n := range d.Nodes[at:tree.End(d, at)] {
			in[n.Key]++
		}
		got, _ := layout.Layout(other, wide)
		for i, f := range l {
			if in[f.Node] > 0 {
				f.X, f.Y = f.X+byX, f.Y+byY
			}
			if len(got) != len(l) || got[i] != f {
				t.Fatalf("%s in %d, with other offsets at %d: %s, not %s", written(d), wide, d.Nodes[at].Key, told(got), told(l))
			}
		}
	})
	if many < 5000 {
		t.Errorf("only %d documents", many)
	}
}

// P18.7: a root that asks for a width is laid out alike in whatever is around;
// by its margins it may stand elsewhere, with all that is in it.
func TestWhatIsAround(t *testing.T) {
	many, moved := 0, 0
	goOver(func(d api.Doc, wide int, l []api.Frag) {
		root := tree.Copy(d)
		s := &root.Nodes[0].Style
		for _, size := range []*api.Length{&s.Width, &s.MinW, &s.MaxW} {
			if size.Kind == api.LPart {
				*size = api.Length{Kind: api.LFixed, N: size.N / 100}
			}
		}
		if s.Width.Kind != api.LFixed {
			s.Width = api.Length{Kind: api.LFixed, N: 77}
		}
		one, e := layout.Layout(root, wide)
		if e != api.OK {
			return
		}
		for _, around := range []int{0, wide / 2, 5000} {
			other, e := layout.Layout(root, around)
			if e == api.ErrOver && wide > 1000 {
				// What its margins come to may be too great here alone.
				continue
			}
			if e != api.OK || len(other) != len(one) {
				t.Fatalf("%s in %d, and %d: %s, %s", written(root), wide, around, told(one), told(other))
			}
			byX, byY := other[0].X-one[0].X, other[0].Y-one[0].Y
			for i, f := range one {
				f.X, f.Y = f.X+byX, f.Y+byY
				if other[i] != f {
					t.Fatalf("%s in %d, and %d: %s, %s", written(root), wide, around, told(one), told(other))
				}
			}
			many++
			if byX != 0 || byY != 0 {
				moved++
			}
		}
	})
	if many < 15000 || moved < 5000 {
		t.Errorf("only %d documents, %d moved", many, moved)
	}
}
