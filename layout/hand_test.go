package layout_test

import (
	"cmp"
	"slices"

	"windowpane/api"
	"windowpane/block"
	"windowpane/breaks"
	"windowpane/fixed"
	"windowpane/flex"
	"windowpane/flexible"
	"windowpane/flexline"
	"windowpane/inline"
	"windowpane/lines"
	"windowpane/margin"
	"windowpane/metric"
	"windowpane/mutate"
	"windowpane/style"
	"windowpane/width"
)

const (
	maxCoord  = 1 << 40
	maxLength = 1 << 38
	maxWidth  = 1 << 31
)

// hand lays documents out by the chapter's words, with nothing kept: each box
// that is laid out is told as a list of its own, which those around it move.
type hand []api.Node

// handFrag is a fragment of the node at that place.
type handFrag struct {
	place int
	api.Frag
}

// inside is what is in a box's content: its fragments, from the content's
// corner, and what it tells.
type inside struct {
	l           []handFrag
	height      int
	top, bottom margin.Margin
	through     bool
}

// how says how a box is laid out.
type how struct {
	wide   int
	apart  bool
	forced bool
	tall   int // if it is forced
}

type tooGreat struct{}

// ok tells what a call told; too great it is, if that told an error.
func ok[T any](v T, e api.Errno) T {
	if e == api.ErrOver {
		panic(tooGreat{})
	}
	if e != api.OK {
		panic(e)
	}
	return v
}

// caught tells what is told, and ErrOver beside nothing, if it is too great.
func caught[T any](f func() T) (v T, e api.Errno) {
	defer func() {
		if r := recover(); r != nil {
			_ = r.(tooGreat)
			e = api.ErrOver
		}
	}()
	return f(), api.OK
}

func handLayout(d api.Doc, around int) ([]api.Frag, api.Errno) {
	if !mutate.May(d) {
		return nil, api.ErrDoc
	}
	if around < 0 || around > maxWidth {
		return nil, api.ErrArg
	}
	return caught(func() []api.Frag {
		h := hand(d.Nodes)
		left, wide := h.solve(0, around)
		l := h.box(0, how{wide: wide, apart: true}, left, h.margin(0, api.Top, around)).l
		slices.SortStableFunc(l, func(a, b handFrag) int {
			return cmp.Or(cmp.Compare(a.place, b.place), cmp.Compare(a.Part, b.Part))
		})
		frags := make([]api.Frag, len(l))
		for i, f := range l {
			if max(f.X, f.Y, f.W, f.H) > maxCoord || min(f.X, f.Y, f.W, f.H) < -maxCoord {
				panic(tooGreat{})
			}
			frags[i] = f.Frag
		}
		return frags
	})
}

func handWide(d api.Doc, key int) (narrow, wide int, e api.Errno) {
	if !mutate.May(d) {
		return 0, 0, api.ErrDoc
	}
	at := slices.IndexFunc(d.Nodes, func(n api.Node) bool { return n.Key == key && n.Kind == api.NkBox })
	if at < 0 {
		return 0, 0, api.ErrArg
	}
	both, e := caught(func() [2]int {
		h := hand(d.Nodes)
		return [2]int{h.content(at, true), h.content(at, false)}
	})
	return both[0], both[1], e
}

func handTall(d api.Doc, key, wide int) (int, api.Errno) {
	if !mutate.May(d) {
		return 0, api.ErrDoc
	}
	at := slices.IndexFunc(d.Nodes, func(n api.Node) bool { return n.Key == key && n.Kind == api.NkBox })
	if at < 0 || wide < 0 || wide > maxCoord {
		return 0, api.ErrArg
	}
	return caught(func() int { return hand(d.Nodes).lay(at, how{wide: wide, apart: true}).height })
}

func (h hand) parent(at int) int {
	for p := at - 1; p >= 0; p-- {
		if h[p].Depth == h[at].Depth-1 {
			return p
		}
	}
	return -1
}

func (h hand) kids(at int) []int {
	var kids []int
	for k := range h {
		if h.parent(k) == at {
			kids = append(kids, k)
		}
	}
	return kids
}

// font tells the font of the box at that place.
func (h hand) font(at int) int {
	for ; at >= 0; at = h.parent(at) {
		if h[at].Style.Font != 0 {
			return h[at].Style.Font
		}
	}
	return 16
}

func (h hand) across(at int) int {
	s := h[at].Style
	return s.Padding[api.Left] + s.Padding[api.Right] + s.Border[api.Left] + s.Border[api.Right]
}

func (h hand) up(at int) int {
	s := h[at].Style
	return s.Padding[api.Top] + s.Padding[api.Bottom] + s.Border[api.Top] + s.Border[api.Bottom]
}

func (h hand) margin(at, side, around int) int {
	n, is, e := style.Resolve(h[at].Style.Margin[side], around)
	ok(0, e)
	if !is {
		return 0
	}
	return n
}

func (h hand) outerWidth(at, wide, around int) int {
	return h.margin(at, api.Left, around) + h.across(at) + wide + h.margin(at, api.Right, around)
}

func (h hand) outerHeight(at, tall, around int) int {
	return h.margin(at, api.Top, around) + h.up(at) + tall + h.margin(at, api.Bottom, around)
}

func (h hand) solve(at, around int) (left, wide int) {
	left, wide, _, e := width.Solve(around, ok(width.Of(h[at].Style, around)))
	ok(0, e)
	return left, wide
}

// asked tells the content's width that a box asks for, and whether it does.
func (h hand) asked(at, around int) (int, bool) {
	a := ok(width.Of(h[at].Style, around))
	return a.Width, a.Is
}

func (h hand) clampWide(at, n, around int) int {
	a := ok(width.Of(h[at].Style, around))
	return fixed.Clamp(n, a.Least, a.Most)
}

func (h hand) clampTall(at, n int) int {
	least, most, e := style.Heights(h[at].Style)
	ok(0, e)
	return fixed.Clamp(n, least, most)
}

// asksTall tells the height that a box asks for, by Clamp, and whether it does.
func (h hand) asksTall(at int) (int, bool) {
	n, is, e := style.Height(h[at].Style)
	ok(0, e)
	return h.clampTall(at, n), is
}

// height tells a content's height, for one that comes of its kids.
func (h hand) height(at int, w how, comes int) int {
	if w.forced {
		return w.tall
	}
	if n, is := h.asksTall(at); is {
		return n
	}
	return h.clampTall(at, comes)
}

// box tells the box at that place, laid out so, with its corner there, and what
// its content tells.
func (h hand) box(at int, w how, x, y int) inside {
	s := h[at].Style
	in := h.lay(at, w)
	x, y = x+s.OffX, y+s.OffY
	whole := []handFrag{{at, api.Frag{
		Node: h[at].Key, Depth: h[at].Depth, X: x, Y: y, W: w.wide + h.across(at), H: in.height + h.up(at),
	}}}
	in.l = append(whole, moved(in.l, x+s.Padding[api.Left]+s.Border[api.Left], y+s.Padding[api.Top]+s.Border[api.Top])...)
	return in
}

func moved(l []handFrag, x, y int) []handFrag {
	l = slices.Clone(l)
	for i := range l {
		l[i].X += x
		l[i].Y += y
	}
	return l
}

// lay tells what is in the content of a box.
func (h hand) lay(at int, w how) inside {
	switch s := h[at].Style; {
	case s.Display != api.DFlex:
		return h.flow(at, w)
	case s.Dir == api.Row || s.Dir == api.RowBack:
		return h.row(at, w)
	}
	return h.column(at, w)
}

// inRun tells whether the node at that place is one of a run.
func (h hand) inRun(at int) bool {
	return h[at].Kind == api.NkText || h[at].Style.Display == api.DInline
}

// groups tells a box's kids: those that stand side by side in a run together.
func (h hand) groups(at int) [][]int {
	var groups [][]int
	ahead := false
	for _, kid := range h.kids(at) {
		if h.inRun(kid) && ahead {
			groups[len(groups)-1] = append(groups[len(groups)-1], kid)
		} else {
			groups = append(groups, []int{kid})
		}
		ahead = h.inRun(kid)
	}
	return groups
}

func (h hand) flow(at int, w how) inside {
	s := h[at].Style
	var in inside
	var kids []block.Kid
	var all [][]handFrag
	for _, group := range h.groups(at) {
		if h.inRun(group[0]) {
			if l, tall, many := h.run(at, group, w.wide); many > 0 {
				kids, all = append(kids, block.Kid{Height: tall}), append(all, l)
			}
			continue
		}
		kid := group[0]
		left, wide := h.solve(kid, w.wide)
		b := h.box(kid, how{wide: wide}, left, 0)
		kids = append(kids, block.Kid{
			Top:     margin.Join(margin.One(h.margin(kid, api.Top, w.wide)), b.top),
			Bottom:  margin.Join(margin.One(h.margin(kid, api.Bottom, w.wide)), b.bottom),
			Height:  h.up(kid) + b.height,
			Through: b.through,
		})
		all = append(all, b.l)
	}
	_, asks := h.asksTall(at)
	least, most, _ := style.Heights(s)
	above := !w.apart && s.Padding[api.Top] == 0 && s.Border[api.Top] == 0
	below := !w.apart && s.Padding[api.Bottom] == 0 && s.Border[api.Bottom] == 0 && !asks && least == 0 && most == maxCoord
	st := ok(block.Stack(kids, above, below))
	for i := range all {
		in.l = append(in.l, moved(all[i], 0, st.At[i])...)
	}
	in.height, in.top, in.bottom, in.through = h.height(at, w, st.Height), st.Top, st.Bottom, st.Through
	return in
}

// piece is an item of a run.
type piece struct {
	of   int
	text string
	item lines.Item
	spot inline.Spot
	box  []handFrag
}

// textPieces tells the items of a text in the box at that place.
func (h hand) textPieces(at, text int) []piece {
	var l []piece
	font := h.font(at)
	for _, p := range breaks.Cut(h[text].Text, h[at].Style.Ws) {
		wide := ok(metric.Width(p.Text, font))
		l = append(l, piece{
			of: text, text: p.Text, item: lines.Item{Kind: p.Kind, Width: wide},
			spot: inline.Spot{Width: wide, Up: 60 * font, Down: 20 * font},
		})
	}
	return l
}

func itemsOf(l []piece) []lines.Item {
	var items []lines.Item
	for _, p := range l {
		items = append(items, p.item)
	}
	return items
}

// run tells the fragments of a run, from its upper edge, how tall it is, and
// how many lines it has.
func (h hand) run(at int, group []int, wide int) (all []handFrag, tall, many int) {
	font := h.font(at)
	var l []piece
	for _, kid := range group {
		if h[kid].Kind == api.NkText {
			l = append(l, h.textPieces(at, kid)...)
		} else {
			l = append(l, h.boxPiece(kid, wide))
		}
	}
	parts := map[int]int{}
	filled := ok(lines.Fill(itemsOf(l), wide))
	for _, line := range filled {
		in := l[line.From:line.To]
		var spots []inline.Spot
		for _, p := range in {
			spots = append(spots, p.spot)
		}
		pos, height, _, e := inline.Place(spots, 60*font, 20*font, wide, h[at].Style.Lines)
		ok(0, e)
		for _, kid := range group {
			first := slices.IndexFunc(in, func(p piece) bool { return p.of == kid })
			if first < 0 {
				continue
			}
			if h[kid].Kind == api.NkBox {
				all = append(all, moved(in[first].box, pos[first].X, tall+pos[first].Y)...)
				continue
			}
			parts[kid]++
			f := api.Frag{Node: h[kid].Key, Part: parts[kid], Depth: h[kid].Depth, X: pos[first].X, Y: tall + pos[first].Y, H: 80 * font}
			for _, p := range in {
				if p.of == kid {
					f.W += p.item.Width
					f.Text += p.text
				}
			}
			all = append(all, handFrag{kid, f})
		}
		tall += height
	}
	return all, tall, len(filled)
}

// boxPiece tells a box of DInline as an item.
func (h hand) boxPiece(kid, around int) piece {
	wide := h.fits(kid, around)
	b := h.box(kid, how{wide: wide, apart: true}, h.margin(kid, api.Left, around), h.margin(kid, api.Top, around))
	outer := h.outerWidth(kid, wide, around)
	return piece{
		of: kid, box: b.l, item: lines.Item{Kind: breaks.KBox, Width: outer},
		spot: inline.Spot{Width: outer, Up: h.outerHeight(kid, b.height, around), Align: h[kid].Style.Valign},
	}
}

// fits tells the width that a box asks for, or else fits.
func (h hand) fits(kid, around int) int {
	wide, is := h.asked(kid, around)
	if !is {
		room := max(0, around-h.outerWidth(kid, 0, around))
		wide = width.Fit(h.content(kid, true), h.content(kid, false), room)
	}
	return h.clampWide(kid, wide, around)
}

// own tells a box's own outer width.
func (h hand) own(at int, narrow bool) int {
	s := h[at].Style
	for _, l := range []*api.Length{&s.Width, &s.MinW, &s.MaxW, &s.Margin[1], &s.Margin[3]} {
		if l.Kind == api.LPart {
			*l = api.Length{}
		}
	}
	a := ok(width.Of(s, 0))
	if !a.Is {
		a.Width = h.content(at, narrow)
	}
	return fixed.Clamp(a.Width, a.Least, a.Most) + a.Edges + s.Margin[1].N + s.Margin[3].N
}

// content tells how wide a content would be.
func (h hand) content(at int, narrow bool) int {
	s := h[at].Style
	widths := []int{0}
	if s.Display == api.DFlex {
		all := 0
		for i, kid := range h.kids(at) {
			widths = append(widths, h.own(kid, narrow))
			all += widths[i+1] + s.Gap
		}
		if (s.Dir == api.Row || s.Dir == api.RowBack) && !(narrow && s.Wrap) {
			return max(0, all-s.Gap)
		}
		return slices.Max(widths)
	}
	for _, group := range h.groups(at) {
		if !h.inRun(group[0]) {
			widths = append(widths, h.own(group[0], narrow))
			continue
		}
		var l []lines.Item
		for _, kid := range group {
			if h[kid].Kind == api.NkText {
				l = append(l, itemsOf(h.textPieces(at, kid))...)
			} else {
				l = append(l, lines.Item{Kind: breaks.KBox, Width: h.own(kid, narrow)})
			}
		}
		by := maxCoord
		if narrow {
			by = 0
		}
		widths = append(widths, lines.Widest(ok(lines.Fill(l, by))))
	}
	return slices.Max(widths)
}

// ordered tells the kids of a flexible box by Order.
func (h hand) ordered(at int) []int {
	kids := h.kids(at)
	slices.SortStableFunc(kids, func(a, b int) int { return cmp.Compare(h[a].Style.Order, h[b].Style.Order) })
	return kids
}

// basis tells a Basis as a content's size.
func basis(s api.Style, of, edges int) (int, bool) {
	n, is, e := style.Resolve(s.Basis, of)
	ok(0, e)
	if is && s.Whole {
		n = max(0, n-edges)
	}
	return n, is
}

func (h hand) row(at int, w how) inside {
	s := h[at].Style
	kids := h.ordered(at)
	var l []flexible.Item
	var sizes []int
	for _, kid := range kids {
		ks := h[kid].Style
		a := ok(width.Of(ks, w.wide))
		base, is := basis(ks, w.wide, h.across(kid))
		if !is && a.Is {
			base, is = a.Width, true
		}
		if !is {
			base = h.content(kid, false)
		}
		l = append(l, flexible.Item{Base: base, Least: a.Least, Most: a.Most, Grow: ks.Grow, Shrink: ks.Shrink, Outer: h.outerWidth(kid, 0, w.wide)})
		sizes = append(sizes, flexible.First(l[len(l)-1])+l[len(l)-1].Outer)
	}
	var in inside
	var talls []int
	y := 0
	for i, line := range ok(flexline.Split(sizes, s.Gap, w.wide, s.Wrap)) {
		if i > 0 {
			talls, y = append(talls, s.LineGap), y+s.LineGap
		}
		frags, tall := h.rowLine(at, w, kids[line.From:line.To], ok(flexible.Sizes(l[line.From:line.To], s.Gap, w.wide)))
		in.l = append(in.l, moved(frags, 0, y)...)
		talls, y = append(talls, tall), y+tall
	}
	in.height = h.height(at, w, ok(fixed.Add(talls...)))
	return in
}

// rowLine tells a line of a row, from its upper edge, and how tall it is.
func (h hand) rowLine(at int, w how, kids, wides []int) (l []handFrag, tall int) {
	s := h[at].Style
	outers, ways := make([]int, len(kids)), make([]how, len(kids))
	heights := make([]int, len(kids))
	for i, kid := range kids {
		outers[i] = h.outerWidth(kid, wides[i], w.wide)
		ways[i] = how{wide: wides[i], apart: true}
		heights[i] = h.lay(kid, ways[i]).height
		tall = max(tall, h.outerHeight(kid, heights[i], w.wide))
	}
	if asks, is := h.asksTall(at); !s.Wrap && w.forced {
		tall = w.tall
	} else if !s.Wrap && is {
		tall = asks
	}
	begins := ok(flex.Main(outers, s.Gap, w.wide, s.Justify, s.Dir == api.RowBack))
	for i, kid := range kids {
		if _, is := h.asksTall(kid); s.Align == api.Stretch && !is {
			n := h.clampTall(kid, max(0, tall-h.outerHeight(kid, 0, w.wide)))
			if n != heights[i] {
				ways[i].forced, ways[i].tall = true, n
				heights[i] = n
			}
		}
		y := ok(flex.Cross(h.outerHeight(kid, heights[i], w.wide), tall, s.Align))
		b := h.box(kid, ways[i], begins[i]+h.margin(kid, api.Left, w.wide), y+h.margin(kid, api.Top, w.wide))
		l = append(l, b.l...)
	}
	return l, tall
}

func (h hand) column(at int, w how) inside {
	s := h[at].Style
	kids := h.ordered(at)
	ways := make([]how, len(kids))
	var l []flexible.Item
	for i, kid := range kids {
		ks := h[kid].Style
		wide := h.columnWide(at, kid, w.wide)
		ways[i] = how{wide: wide, apart: true, tall: h.lay(kid, how{wide: wide, apart: true}).height}
		base := ways[i].tall
		if ks.Basis.Kind == api.LFixed {
			base, _ = basis(ks, 0, h.up(kid))
		}
		least, most, _ := style.Heights(ks)
		l = append(l, flexible.Item{Base: base, Least: least, Most: most, Grow: ks.Grow, Shrink: ks.Shrink, Outer: h.outerHeight(kid, 0, w.wide)})
	}
	room := -1
	if n, is := h.asksTall(at); w.forced {
		room = w.tall
	} else if is {
		room = n
	}
	var sums, outers []int
	for i, n := range ok(flexible.Sizes(l, s.Gap, room)) {
		if n != ways[i].tall {
			ways[i].forced, ways[i].tall = true, n
		}
		if i > 0 {
			sums = append(sums, s.Gap)
		}
		outers = append(outers, h.outerHeight(kids[i], n, w.wide))
		sums = append(sums, outers[i])
	}
	in := inside{height: h.height(at, w, max(0, ok(fixed.Add(sums...))))}
	begins := ok(flex.Main(outers, s.Gap, in.height, s.Justify, s.Dir == api.ColumnBack))
	for i, kid := range kids {
		x := ok(flex.Cross(h.outerWidth(kid, ways[i].wide, w.wide), w.wide, s.Align))
		b := h.box(kid, ways[i], x+h.margin(kid, api.Left, w.wide), begins[i]+h.margin(kid, api.Top, w.wide))
		in.l = append(in.l, b.l...)
	}
	return in
}

func (h hand) columnWide(at, kid, around int) int {
	if _, is := h.asked(kid, around); !is && h[at].Style.Align == api.Stretch {
		return h.clampWide(kid, max(0, around-h.outerWidth(kid, 0, around)), around)
	}
	return h.fits(kid, around)
}
