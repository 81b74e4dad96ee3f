package style_test

import (
	"fmt"
	"math"
	"math/big"
	"math/rand"
	"testing"

	"windowpane/api"
	"windowpane/style"
)

// around are widths that may be around, and such as are no lengths.
var around = []int{
	math.MinInt, -1 << 62, -maxCoord - 1, -maxCoord, -maxCoord + 1, -maxCoord / 10, -10001, -7, -1,
	0, 1, 2, 7, 50, 9999, 10000, 10001, 1 << 31, maxLength, maxCoord / 10, maxCoord/10 + 1, maxCoord - 1, maxCoord, maxCoord + 1, 1 << 62, math.MaxInt,
}

// size is what a call answers that tells a number, if there is one.
type size struct {
	n  int
	is bool
	e  api.Errno
}

// two is what a call answers that tells two numbers.
type two struct {
	a, b int
	e    api.Errno
}

func sizeOf(n int, is bool, e api.Errno) size { return size{n, is, e} }

func twoOf(a, b int, e api.Errno) two { return two{a, b, e} }

func isLength(n int) bool { return n >= -maxCoord && n <= maxCoord }

// resolveByHand tells what a length comes to by the words of chapters 1 and 6.
func resolveByHand(l api.Length, of int) size {
	switch {
	case l.Kind == 1 && isLength(l.N):
		return size{l.N, true, api.OK}
	case l.Kind == 2 && (l.N < 0 || l.N > 100000):
		return size{e: api.ErrArg}
	case l.Kind == 2 && isLength(of):
		part := new(big.Int).Mul(big.NewInt(int64(l.N)), big.NewInt(int64(of)))
		part.Quo(part, big.NewInt(10000))
		if part.CmpAbs(big.NewInt(maxCoord)) <= 0 {
			return size{int(part.Int64()), true, api.OK}
		}
	case l.Kind != 1 && l.Kind != 2:
		return size{}
	}
	return size{e: api.ErrOver}
}

func edgesByHand(s api.Style) two {
	if !mayByHand(s) {
		return two{e: api.ErrStyle}
	}
	return two{
		s.Padding[1] + s.Padding[3] + s.Border[1] + s.Border[3],
		s.Padding[0] + s.Padding[2] + s.Border[0] + s.Border[2],
		api.OK,
	}
}

// contentByHand tells a content's size by the words.
func contentByHand(s api.Style, l api.Length, of, edges int) size {
	if !mayByHand(s) {
		return size{e: api.ErrStyle}
	}
	got := resolveByHand(l, of)
	switch {
	case got.is && s.Whole && got.n < edges:
		got.n = 0
	case got.is && s.Whole:
		got.n -= edges
	}
	return got
}

func limitsByHand(s api.Style, least, most api.Length, of, edges int) two {
	a, b := contentByHand(s, least, of, edges), contentByHand(s, most, of, edges)
	switch {
	case a.e != api.OK:
		return two{e: a.e}
	case b.e != api.OK:
		return two{e: b.e}
	case !b.is:
		b.n = maxCoord
	}
	return two{a.n, b.n, api.OK}
}

func checkSize(t *testing.T, got, want size, what ...any) {
	t.Helper()
	if got != want {
		t.Errorf("%s: %v, not %v", fmt.Sprint(what...), got, want)
	}
}

func checkTwo(t *testing.T, got, want two, what ...any) {
	t.Helper()
	if got != want {
		t.Errorf("%s: %v, not %v", fmt.Sprint(what...), got, want)
	}
}

// checkAll holds all calls of a style against what is told by hand.
func checkAll(t *testing.T, s api.Style, of int) {
	t.Helper()
	edges := edgesByHand(s)
	checkMay(t, s, mayByHand(s), s)
	checkTwo(t, twoOf(style.Edges(s)), edges, "edges of ", s)
	checkSize(t, sizeOf(style.Width(s, of)), contentByHand(s, s.Width, of, edges.a), "width of ", s, " of ", of)
	checkSize(t, sizeOf(style.Height(s)), contentByHand(s, s.Height, 0, edges.b), "height of ", s)
	checkTwo(t, twoOf(style.Widths(s, of)), limitsByHand(s, s.MinW, s.MaxW, of, edges.a), "widths of ", s, " of ", of)
	checkTwo(t, twoOf(style.Heights(s)), limitsByHand(s, s.MinH, s.MaxH, 0, edges.b), "heights of ", s)
}

func fixedOf(n int) api.Length { return api.Length{Kind: api.LFixed, N: n} }

func partOf(n int) api.Length { return api.Length{Kind: api.LPart, N: n} }

// P6.2 to P6.6: the rows of the chapter's examples.
func TestExamples(t *testing.T) {
	edges := api.Style{Padding: [4]int{1, 2, 3, 4}, Border: [4]int{10, 20, 30, 40}}
	checkTwo(t, twoOf(style.Edges(edges)), two{66, 44, api.OK}, "edges")
	checkSize(t, sizeOf(style.Resolve(partOf(5000), 7)), size{3, true, api.OK}, "half of 7")
	checkSize(t, sizeOf(style.Resolve(api.Length{Kind: api.LAuto}, 7)), size{}, "LAuto")
	box := api.Style{Width: fixedOf(100), Padding: [4]int{10, 10, 10, 10}}
	checkSize(t, sizeOf(style.Width(box, 1000)), size{100, true, api.OK}, "a content's width")
	box.Whole = true
	checkSize(t, sizeOf(style.Width(box, 1000)), size{80, true, api.OK}, "a whole box's width")
	box.Width = fixedOf(5)
	checkSize(t, sizeOf(style.Width(box, 1000)), size{0, true, api.OK}, "a narrow whole box's width")
	checkTwo(t, twoOf(style.Widths(api.Style{}, 50)), two{0, 1 << 40, api.OK}, "widths of the zero style")
	for font, want := range map[int]int{0: 16, 12: 12} {
		if got := style.Font(api.Style{Font: font}, 16); got != want {
			t.Errorf("font %d around 16: %d, not %d", font, got, want)
		}
	}
}

// P6.2: each side counts on its own way, once, whatever else the style has.
func TestEdgesSides(t *testing.T) {
	for _, s := range []api.Style{{}, middling(), greatest()} {
		s.Padding, s.Border = [4]int{1, 10, 100, 1000}, [4]int{10000, 100000, 1000000, 10000000}
		checkTwo(t, twoOf(style.Edges(s)), two{10101010, 1010101, api.OK}, s)
	}
	for side := range 4 {
		want := two{5, 0, api.OK}
		if side == api.Top || side == api.Bottom {
			want = two{0, 5, api.OK}
		}
		var padding, border api.Style
		padding.Padding[side], border.Border[side] = 5, 5
		checkTwo(t, twoOf(style.Edges(padding)), want, "padding ", side)
		checkTwo(t, twoOf(style.Edges(border)), want, "border ", side)
	}
}

// P6.2: of the zero style, and of just MaxLength at all sides: that together
// is just MaxCoord, and more than any length of a style.
func TestEdgesEnds(t *testing.T) {
	checkTwo(t, twoOf(style.Edges(api.Style{})), two{}, "the zero style")
	checkTwo(t, twoOf(style.Edges(greatest())), two{maxCoord, maxCoord, api.OK}, "the greatest")
	checkTwo(t, twoOf(style.Edges(least())), two{}, "the least")
	full := [4]int{maxLength, maxLength, maxLength, maxLength}
	for _, whole := range []bool{false, true} {
		checkTwo(t, twoOf(style.Edges(api.Style{Whole: whole, Padding: full})), two{2 * maxLength, 2 * maxLength, api.OK}, "paddings")
		checkTwo(t, twoOf(style.Edges(api.Style{Whole: whole, Border: full})), two{2 * maxLength, 2 * maxLength, api.OK}, "borders")
	}
	full[api.Top]++
	checkTwo(t, twoOf(style.Edges(api.Style{Padding: full})), two{e: api.ErrStyle}, "one above")
}

// P6.2, P6.4, P6.5: ErrStyle, and nothing else, of each field that may not be,
// even where what is around is no length (P0.2).
func TestStylesThatMayNotBe(t *testing.T) {
	var odd []api.Style
	put := func(change func(s *api.Style)) {
		for _, s := range mayStyles() {
			change(&s)
			odd = append(odd, s)
		}
	}
	for _, f := range kindFields {
		put(func(s *api.Style) { *f.field(s) = 6 })
		put(func(s *api.Style) { *f.field(s) = 255 })
	}
	for _, f := range numberFields {
		put(func(s *api.Style) { *f.field(s) = f.least - 1 })
		put(func(s *api.Style) { *f.field(s) = f.most + 1 })
		put(func(s *api.Style) { *f.field(s) = math.MaxInt })
		put(func(s *api.Style) { *f.field(s) = math.MinInt })
	}
	for _, f := range lengthFields {
		for _, l := range []api.Length{{Kind: 0, N: 1}, fixedOf(f.least - 1), fixedOf(maxLength + 1), fixedOf(maxCoord + 1), partOf(-1), partOf(100001), {Kind: 3}} {
			put(func(s *api.Style) { *f.field(s) = l })
		}
	}
	none, nothing := size{e: api.ErrStyle}, two{e: api.ErrStyle}
	for _, s := range odd {
		checkTwo(t, twoOf(style.Edges(s)), nothing, "edges of ", s)
		checkSize(t, sizeOf(style.Height(s)), none, "height of ", s)
		checkTwo(t, twoOf(style.Heights(s)), nothing, "heights of ", s)
		for _, of := range []int{0, 100, maxCoord + 1, math.MinInt} {
			checkSize(t, sizeOf(style.Width(s, of)), none, "width of ", s, " of ", of)
			checkTwo(t, twoOf(style.Widths(s, of)), nothing, "widths of ", s, " of ", of)
		}
	}
}

// P6.3: LFixed, of whatever is around: what is no length tells ErrOver.
func TestResolveFixed(t *testing.T) {
	for _, of := range around {
		for _, n := range append([]int{-maxCoord, -maxLength - 1, -1, 0, 1, 100, 100001, maxLength, maxLength + 1, maxCoord - 1, maxCoord, maxCoord + 1, -maxCoord - 1}, far...) {
			want := size{n, true, api.OK}
			if n < -1<<40 || n > 1<<40 {
				want = size{e: api.ErrOver}
			}
			checkSize(t, sizeOf(style.Resolve(fixedOf(n), of)), want, n, " of ", of)
		}
	}
}

// P6.3: LPart: of 0, of MaxPart, of a width of 0, of one that is no length.
func TestResolvePart(t *testing.T) {
	for _, x := range []struct {
		n, of int
		want  size
	}{
		{0, 0, size{0, true, api.OK}},
		{0, 1000, size{0, true, api.OK}},
		{10000, 1000, size{1000, true, api.OK}},
		{10000, 1 << 40, size{1 << 40, true, api.OK}},
		{10000, -1 << 40, size{-1 << 40, true, api.OK}},
		{10001, 1 << 40, size{e: api.ErrOver}},
		{100000, 0, size{0, true, api.OK}},
		{100000, 5, size{50, true, api.OK}},
		{100000, (1 << 40) / 10, size{(1 << 40) / 10 * 10, true, api.OK}},
		{100000, (1<<40)/10 + 1, size{e: api.ErrOver}},
		{5000, -7, size{-3, true, api.OK}},
		{1, 9999, size{0, true, api.OK}},
		{1, -9999, size{0, true, api.OK}},
		{1, 10000, size{1, true, api.OK}},
		{0, 1<<40 + 1, size{e: api.ErrOver}},
		{0, math.MinInt, size{e: api.ErrOver}},
		{100001, 1, size{e: api.ErrArg}},
		{-1, 1, size{e: api.ErrArg}},
		{100001, 1<<40 + 1, size{e: api.ErrArg}},
		{-1, math.MinInt, size{e: api.ErrArg}},
		{math.MaxInt, 0, size{e: api.ErrArg}},
	} {
		checkSize(t, sizeOf(style.Resolve(partOf(x.n), x.of)), x.want, x.n, " of ", x.of)
	}
	for _, of := range around {
		for _, n := range append([]int{0, 1, 3333, 5000, 9999, 10000, 10001, 99999, 100000, 100001, -1}, far...) {
			checkSize(t, sizeOf(style.Resolve(partOf(n), of)), resolveByHand(partOf(n), of), n, " of ", of)
		}
	}
}

// P6.3: LAuto, and kinds that are none, with whatever numbers.
func TestResolveNothing(t *testing.T) {
	for kind := range 256 {
		if kind == int(api.LFixed) || kind == int(api.LPart) {
			continue
		}
		for _, of := range around {
			for _, n := range append([]int{-1, 0, 1, 5000, 100001}, far...) {
				checkSize(t, sizeOf(style.Resolve(api.Length{Kind: uint8(kind), N: n}, of)), size{}, "kind ", kind, " ", n, " of ", of)
			}
		}
	}
}

// P6.4, Width: what no whole box asks for stays, even below 0; a whole one's
// is less across, and never less than 0.
func TestWidth(t *testing.T) {
	for _, x := range []struct {
		whole bool
		width api.Length
		edge  int
		of    int
		want  size
	}{
		{false, api.Length{}, 5, 100, size{}},
		{true, api.Length{}, 5, 100, size{}},
		{true, api.Length{}, 5, maxCoord + 1, size{}},
		{false, fixedOf(0), 5, 100, size{0, true, api.OK}},
		{true, fixedOf(0), 5, 100, size{0, true, api.OK}},
		{true, fixedOf(9), 5, 100, size{0, true, api.OK}},
		{true, fixedOf(10), 5, 100, size{0, true, api.OK}},
		{true, fixedOf(11), 5, 100, size{1, true, api.OK}},
		{true, fixedOf(11), 0, 100, size{11, true, api.OK}},
		{false, fixedOf(maxLength), maxLength, 0, size{maxLength, true, api.OK}},
		{true, fixedOf(maxLength), maxLength, 0, size{0, true, api.OK}},
		{true, fixedOf(7), 1, maxCoord + 1, size{5, true, api.OK}},
		{false, partOf(5000), 5, 100, size{50, true, api.OK}},
		{true, partOf(5000), 5, 100, size{40, true, api.OK}},
		{true, partOf(5000), 25, 100, size{0, true, api.OK}},
		{true, partOf(5000), 26, 100, size{0, true, api.OK}},
		{false, partOf(5000), 5, -7, size{-3, true, api.OK}},
		{true, partOf(5000), 0, -7, size{0, true, api.OK}},
		{true, partOf(10000), maxLength, -maxCoord, size{0, true, api.OK}},
		{false, partOf(10000), maxLength, -maxCoord, size{-maxCoord, true, api.OK}},
		{false, partOf(0), 5, 100, size{0, true, api.OK}},
		{false, partOf(100000), 5, 0, size{0, true, api.OK}},
		{false, partOf(100000), 5, maxCoord, size{e: api.ErrOver}},
		{true, partOf(100000), maxLength, maxCoord, size{e: api.ErrOver}},
		{true, partOf(0), 5, maxCoord + 1, size{e: api.ErrOver}},
		{true, partOf(10000), 5, math.MinInt, size{e: api.ErrOver}},
	} {
		s := api.Style{Whole: x.whole, Width: x.width}
		s.Padding[api.Left], s.Border[api.Right] = x.edge, x.edge
		checkSize(t, sizeOf(style.Width(s, x.of)), x.want, x)
		s.Padding, s.Border = [4]int{7, x.edge, 7, 0}, [4]int{7, 0, 7, x.edge}
		checkSize(t, sizeOf(style.Width(s, x.of)), x.want, x)
	}
}

// P6.4, Height.
func TestHeight(t *testing.T) {
	for _, x := range []struct {
		whole  bool
		height api.Length
		edge   int
		want   size
	}{
		{false, api.Length{}, 5, size{}},
		{true, api.Length{}, 5, size{}},
		{false, fixedOf(0), 5, size{0, true, api.OK}},
		{true, fixedOf(0), 5, size{0, true, api.OK}},
		{false, fixedOf(11), 5, size{11, true, api.OK}},
		{true, fixedOf(9), 5, size{0, true, api.OK}},
		{true, fixedOf(10), 5, size{0, true, api.OK}},
		{true, fixedOf(11), 5, size{1, true, api.OK}},
		{false, fixedOf(maxLength), maxLength, size{maxLength, true, api.OK}},
		{true, fixedOf(maxLength), maxLength, size{0, true, api.OK}},
		{true, fixedOf(maxLength), maxLength/2 - 1, size{2, true, api.OK}},
	} {
		s := api.Style{Whole: x.whole, Height: x.height}
		s.Padding[api.Top], s.Border[api.Bottom] = x.edge, x.edge
		checkSize(t, sizeOf(style.Height(s)), x.want, x)
		s.Padding, s.Border = [4]int{0, 7, x.edge, 7}, [4]int{x.edge, 7, 0, 7}
		checkSize(t, sizeOf(style.Height(s)), x.want, x)
	}
}

// P6.5: a least that is LAuto, a most that is; of a whole box; below 0; beyond
// the bound.
func TestWidths(t *testing.T) {
	auto := api.Length{}
	for _, x := range []struct {
		whole       bool
		least, most api.Length
		of          int
		want        two
	}{
		{false, auto, auto, 50, two{0, maxCoord, api.OK}},
		{true, auto, auto, 50, two{0, maxCoord, api.OK}},
		{true, auto, auto, maxCoord + 1, two{0, maxCoord, api.OK}},
		{false, fixedOf(30), auto, 50, two{30, maxCoord, api.OK}},
		{true, fixedOf(30), auto, 50, two{20, maxCoord, api.OK}},
		{false, auto, fixedOf(30), 50, two{0, 30, api.OK}},
		{true, auto, fixedOf(30), 50, two{0, 20, api.OK}},
		{true, auto, fixedOf(10), 50, two{0, 0, api.OK}},
		{true, fixedOf(9), fixedOf(11), 50, two{0, 1, api.OK}},
		{false, fixedOf(40), fixedOf(30), 50, two{40, 30, api.OK}},
		{false, fixedOf(0), fixedOf(0), 50, two{0, 0, api.OK}},
		{false, fixedOf(maxLength), fixedOf(maxLength), 50, two{maxLength, maxLength, api.OK}},
		{false, partOf(2000), partOf(6000), 50, two{10, 30, api.OK}},
		{true, partOf(2000), partOf(6000), 50, two{0, 20, api.OK}},
		{false, partOf(0), partOf(100000), 50, two{0, 500, api.OK}},
		{false, partOf(5000), partOf(5000), -7, two{-3, -3, api.OK}},
		{true, partOf(5000), partOf(5000), -7, two{0, 0, api.OK}},
		{false, partOf(100000), auto, maxCoord, two{e: api.ErrOver}},
		{false, auto, partOf(100000), maxCoord, two{e: api.ErrOver}},
		{false, fixedOf(5), partOf(100000), maxCoord, two{e: api.ErrOver}},
		{false, partOf(100000), fixedOf(5), maxCoord, two{e: api.ErrOver}},
		{true, partOf(0), auto, maxCoord + 1, two{e: api.ErrOver}},
		{true, auto, partOf(0), math.MinInt, two{e: api.ErrOver}},
	} {
		s := api.Style{Whole: x.whole, MinW: x.least, MaxW: x.most, Padding: [4]int{9, 1, 9, 2}, Border: [4]int{9, 3, 9, 4}}
		checkTwo(t, twoOf(style.Widths(s, x.of)), x.want, x)
	}
}

// P6.5, Heights.
func TestHeights(t *testing.T) {
	auto := api.Length{}
	for _, x := range []struct {
		whole       bool
		least, most api.Length
		want        two
	}{
		{false, auto, auto, two{0, maxCoord, api.OK}},
		{true, auto, auto, two{0, maxCoord, api.OK}},
		{false, fixedOf(30), auto, two{30, maxCoord, api.OK}},
		{true, fixedOf(30), auto, two{20, maxCoord, api.OK}},
		{false, auto, fixedOf(30), two{0, 30, api.OK}},
		{true, auto, fixedOf(30), two{0, 20, api.OK}},
		{true, auto, fixedOf(10), two{0, 0, api.OK}},
		{true, fixedOf(9), fixedOf(11), two{0, 1, api.OK}},
		{false, fixedOf(40), fixedOf(30), two{40, 30, api.OK}},
		{false, fixedOf(maxLength), fixedOf(maxLength), two{maxLength, maxLength, api.OK}},
	} {
		s := api.Style{Whole: x.whole, MinH: x.least, MaxH: x.most, Padding: [4]int{1, 9, 2, 9}, Border: [4]int{3, 9, 4, 9}}
		checkTwo(t, twoOf(style.Heights(s)), x.want, x)
	}
}

// P6.2 to P6.5: each size hangs on the fields that are named, on no other one.
func TestSizesApart(t *testing.T) {
	s := greatest()
	s.Whole, s.Padding, s.Border = true, [4]int{1, 20, 3, 40}, [4]int{5, 60, 7, 80}
	s.Width, s.MinW, s.MaxW = fixedOf(1000), fixedOf(2000), fixedOf(3000)
	s.Height, s.MinH, s.MaxH = fixedOf(4000), fixedOf(5000), fixedOf(6000)
	checkTwo(t, twoOf(style.Edges(s)), two{200, 16, api.OK}, "edges")
	checkSize(t, sizeOf(style.Width(s, 9)), size{800, true, api.OK}, "width")
	checkTwo(t, twoOf(style.Widths(s, 9)), two{1800, 2800, api.OK}, "widths")
	checkSize(t, sizeOf(style.Height(s)), size{3984, true, api.OK}, "height")
	checkTwo(t, twoOf(style.Heights(s)), two{4984, 5984, api.OK}, "heights")
	s.Width, s.MinW, s.MaxW = api.Length{}, api.Length{}, api.Length{}
	checkSize(t, sizeOf(style.Width(s, 9)), size{}, "no width")
	checkTwo(t, twoOf(style.Widths(s, 9)), two{0, maxCoord, api.OK}, "no widths")
	checkSize(t, sizeOf(style.Height(s)), size{3984, true, api.OK}, "height")
	s.Height, s.MinH, s.MaxH = api.Length{}, api.Length{}, api.Length{}
	checkSize(t, sizeOf(style.Height(s)), size{}, "no height")
	checkTwo(t, twoOf(style.Heights(s)), two{0, maxCoord, api.OK}, "no heights")
}

// P6.1 to P6.5, P0.1: styles by a fixed seed, of whatever is around; such as
// may be, and such as have whatever numbers.
func TestByHand(t *testing.T) {
	r := rand.New(rand.NewSource(2))
	over, told := 0, 0
	for range 20000 {
		s, of := someStyle(r), someNumber(r)
		if r.Intn(3) == 0 {
			of = around[r.Intn(len(around))]
		}
		checkAll(t, s, of)
		checkAll(t, wildStyle(r), of)
		switch _, is, e := style.Width(s, of); {
		case e == api.ErrOver:
			over++
		case is:
			told++
		}
	}
	if over < 500 || told < 5000 {
		t.Errorf("%d over, %d told", over, told)
	}
}

// P6.6: of any style, even one that may not be, and any numbers.
func TestFont(t *testing.T) {
	odd := api.Style{Display: 9, Padding: [4]int{-1}}
	for _, s := range append(mayStyles(), odd) {
		for _, font := range append([]int{0, 1, 12, 16, 999, 1000, 1001, -1}, far...) {
			for _, around := range append([]int{0, 1, 16, 1000, 1001, -1}, far...) {
				want := font
				if font == 0 {
					want = around
				}
				s.Font = font
				if got := style.Font(s, around); got != want {
					t.Errorf("font %d around %d: %d, not %d", font, around, got, want)
				}
			}
		}
	}
}

// checkWhole holds a content's size against what was asked for.
func checkWhole(t *testing.T, s api.Style, n, asked, edges int, what string) {
	t.Helper()
	together := n+edges == asked
	if s.Whole && !together && (n != 0 || edges <= asked) || !s.Whole && n != asked {
		t.Errorf("%s %d of %v: asked for %d, edges %d", what, n, s, asked, edges)
	}
}

// P6.7: whole boxes are what was asked for, or their edges alone; others'
// contents are.
func TestWholeBoxes(t *testing.T) {
	r := rand.New(rand.NewSource(3))
	narrow, wide := 0, 0
	for range 20000 {
		s, of := someStyle(r), someNumber(r)
		across, up, e := style.Edges(s)
		if e != api.OK {
			t.Fatalf("%v: %v", s, e)
		}
		asked, _, _ := style.Resolve(s.Width, of)
		if n, is, _ := style.Width(s, of); is {
			checkWhole(t, s, n, asked, across, "width")
			if s.Whole && n == 0 {
				narrow++
			} else if s.Whole {
				wide++
			}
		}
		if n, is, _ := style.Height(s); is {
			checkWhole(t, s, n, s.Height.N, up, "height")
		}
		if n, _, e := style.Widths(s, of); e == api.OK && s.MinW.Kind != api.LAuto {
			asked, _, _ := style.Resolve(s.MinW, of)
			checkWhole(t, s, n, asked, across, "least width")
		}
		if _, n, _ := style.Heights(s); s.MaxH.Kind != api.LAuto {
			checkWhole(t, s, n, s.MaxH.N, up, "greatest height")
		}
	}
	if narrow < 1000 || wide < 1000 {
		t.Errorf("%d narrow, %d wide", narrow, wide)
	}
}

// P6.8: of a greater width around, a width, the least and the most of it are
// no smaller.
func TestGreaterWidthsAround(t *testing.T) {
	r := rand.New(rand.NewSource(4))
	grown := 0
	for range 20000 {
		s, of := someStyle(r), someNumber(r)
		more := of + 1 + r.Intn(maxCoord)>>r.Intn(41)
		n, is, e := style.Width(s, of)
		m, mIs, mE := style.Width(s, more)
		if e == api.OK && mE == api.OK && (m < n || is != mIs) {
			t.Errorf("width of %v: %d %v of %d, %d %v of %d", s, n, is, of, m, mIs, more)
		}
		least, most, e := style.Widths(s, of)
		mLeast, mMost, mE := style.Widths(s, more)
		if e == api.OK && mE == api.OK && (mLeast < least || mMost < most) {
			t.Errorf("widths of %v: %d %d of %d, %d %d of %d", s, least, most, of, mLeast, mMost, more)
		}
		if m > n {
			grown++
		}
	}
	if grown < 500 {
		t.Errorf("%d grown", grown)
	}
	s := api.Style{Width: partOf(3333), MinW: partOf(1), MaxW: partOf(99999)}
	for of := -30000; of < 30000; of++ {
		checkAll(t, s, of)
	}
}
