package lines_test

import (
	"math"
	"math/rand"
	"slices"
	"testing"

	"windowpane/api"
	"windowpane/lines"
)

// P10.1: all rows of the chapter's examples.
func TestExamples(t *testing.T) {
	for _, x := range []struct {
		l     string
		width int
		want  string
		e     api.Errno
	}{
		{"w3 _1 w3 _1 w3", 7, "0-3 7; 4-5 3", 0},
		{"_1 w9 w9 _1", 5, "1-3 18", 0},
		{"w1 / / w1 /", 5, "0-1 1; 2-2 0; 3-4 1", 0},
		{"b2 b2 w1", 4, "0-2 4; 2-3 1", 0},
		{"", 0, "", 0},
		{"", 5, "", 0},
		{"", maxCoord, "", 0},
		{"w1", -1, "", 2},
	} {
		got, e := lines.Fill(items(x.l), x.width)
		if told(got) != x.want || e != x.e {
			t.Errorf("%s by %d: %s, %d", x.l, x.width, told(got), e)
		}
		checkFill(t, items(x.l), x.width)
	}
}

// ordinary are items, and their lines by some widths, by hand: ordinary ones,
// and the edges that the chapter names.
var ordinary = []struct {
	l     string
	width int
	want  string
}{
	// words, blanks, lines' ends and boxes by turns, in lines that have room for one of them, for some, for all
	{"w3 _1 b4 _1 w5 / b2 _1 w2 b1 _1 / w6 _1", 5, "0-1 3; 2-3 4; 4-5 5; 6-9 5; 9-10 1; 12-13 6"},
	{"w3 _1 b4 _1 w5 / b2 _1 w2 b1 _1 / w6 _1", 8, "0-3 8; 4-5 5; 6-10 6; 12-13 6"},
	{"w3 _1 b4 _1 w5 / b2 _1 w2 b1 _1 / w6 _1", 14, "0-5 14; 6-10 6; 12-13 6"},
	{"w3 _1 b4 _1 w5 / b2 _1 w2 b1 _1 / w6 _1", 13, "0-3 8; 4-5 5; 6-10 6; 12-13 6"},
	{"w3 _1 b4 _1 w5 / b2 _1 w2 b1 _1 / w6 _1", maxCoord, "0-5 14; 6-10 6; 12-13 6"},
	// blanks alone
	{"_1", 5, ""},
	{"_1 _0 _2", 0, ""},
	// lines' ends alone, and blanks around them
	{"/", 5, "0-0 0"},
	{"/ /", 5, "0-0 0; 1-1 0"},
	{"/ / /", 0, "0-0 0; 1-1 0; 2-2 0"},
	{"_1 /", 5, "1-1 0"},
	{"/ _1", 5, "0-0 0"},
	{"_1 / _1 _1 / _1", 5, "1-1 0; 4-4 0"},
	// at the beginning, at the end, side by side
	{"/ w1", 5, "0-0 0; 1-2 1"},
	{"_1 / w1", 5, "1-1 0; 2-3 1"},
	{"/ _1 w1", 5, "0-0 0; 2-3 1"},
	{"/ / b1", 5, "0-0 0; 1-1 0; 2-3 1"},
	{"w1 /", 5, "0-1 1"},
	{"b1 /", 5, "0-1 1"},
	{"w1 _1 /", 5, "0-1 1"},
	{"w1 / _1", 5, "0-1 1"},
	{"w1 / _1 _1 /", 5, "0-1 1; 4-4 0"},
	{"w1 _1 / _1 / _1 w1", 5, "0-1 1; 4-4 0; 6-7 1"},
	{"b1 / b1", 5, "0-1 1; 2-3 1"},
	{"w1 / / / w1", 5, "0-1 1; 2-2 0; 3-3 0; 4-5 1"},
	// a line's end behind a line that is broken, and blanks ahead of it
	{"w3 _1 w3 / w1", 3, "0-1 3; 2-3 3; 4-5 1"},
	{"w3 _1 _1 / w1", 3, "0-1 3; 4-5 1"},
	{"w3 _1 / / w1", 3, "0-1 3; 3-3 0; 4-5 1"},
	// a cluster that is wider than asked for: alone, first, last, within
	{"w9", 5, "0-1 9"},
	{"b9", 5, "0-1 9"},
	{"b9", 0, "0-1 9"},
	{"w9 _1 w1", 5, "0-1 9; 2-3 1"},
	{"w1 _1 w9", 5, "0-1 1; 2-3 9"},
	{"w1 _1 w9 _1 w1", 5, "0-1 1; 2-3 9; 4-5 1"},
	{"b9 b1", 5, "0-1 9; 1-2 1"},
	{"b1 b9", 5, "0-1 1; 1-2 9"},
	{"w1 b9 w1", 5, "0-1 1; 1-2 9; 2-3 1"},
	// words side by side are one cluster, boxes are not
	{"w2 w2 w2", 5, "0-3 6"},
	{"w2 w2 w2 _1 w1 w1", 7, "0-3 6; 4-6 2"},
	{"w1 _1 w2 w2", 5, "0-1 1; 2-4 4"},
	{"b2 b2 b2", 5, "0-2 4; 2-3 2"},
	{"b2 b2 b2", 1, "0-1 2; 1-2 2; 2-3 2"},
	{"w2 b2 w2", 5, "0-2 4; 2-3 2"},
	{"w2 w1 b2 w2 w1", 5, "0-3 5; 3-5 3"},
	{"w2 w1 b2 w2 w1", 4, "0-2 3; 2-3 2; 3-5 3"},
	// blanks between words, between boxes, between both; several of them
	{"w2 _1 w2", 5, "0-3 5"},
	{"w2 _1 w2", 4, "0-1 2; 2-3 2"},
	{"b2 _1 b2", 5, "0-3 5"},
	{"b2 _1 b2", 4, "0-1 2; 2-3 2"},
	{"w2 _1 b2 _1 w2", 5, "0-3 5; 4-5 2"},
	{"w2 _1 _1 w2", 6, "0-4 6"},
	{"w2 _1 _1 w2", 5, "0-1 2; 3-4 2"},
	{"_9 w2 _1 _9 b1 _9", 3, "1-2 2; 4-5 1"},
	{"_1 b1 _1 _1", 1, "1-2 1"},
	// a width of 0; items of no width
	{"w0 _0 w0 b0 / b0", 0, "0-4 0; 5-6 0"},
	{"w0 _1 w0", 0, "0-1 0; 2-3 0"},
	{"w1 b0", 0, "0-1 1; 1-2 0"},
	{"b0 b1 b0", 0, "0-1 0; 1-2 1; 2-3 0"},
	{"w1 w1", 0, "0-2 2"},
	// widths below 0: what is wider than asked for alone has room with what makes it less
	{"b9 b-4 b1", 5, "0-2 5; 2-3 1"},
	{"b9 b-3 b-1", 5, "0-1 9; 1-3 -4"},
	{"w9 _-4 w1 _1 w1", 8, "0-5 8"},
	{"w9 _-4 w1 _1 w1", 7, "0-3 6; 4-5 1"},
	{"w-3 _1 w-4", 0, "0-3 -6"},
	{"_-5 w6 w-1 _-9 /9 _-1", 5, "1-3 5"},
	{"b-9 b9 b1", 0, "0-2 0; 2-3 1"},
	{"b3 w4 w-4", 3, "0-3 3"},
	// a line's end's width, and that of blanks at a line's edges, count for nothing
	{"/7 w1 /-7 /M", 5, "0-0 0; 1-2 1; 3-3 0"},
	{"_M _M w1 _M _M / _M", 1, "2-3 1"},
}

// P10.1: lines by hand.
func TestFill(t *testing.T) {
	for _, x := range ordinary {
		got, e := lines.Fill(items(x.l), x.width)
		if e != api.OK || told(got) != x.want {
			t.Errorf("%s by %d: %s, error %d, not %s", x.l, x.width, told(got), e, x.want)
		}
		for width := range 20 {
			checkFill(t, items(x.l), width)
		}
		checkFill(t, items(x.l), maxCoord)
	}
}

// P10.1: a width that is just as great as what a line has, and one less, of
// words, of boxes, and of both by turns.
func TestJustAsWide(t *testing.T) {
	for _, x := range []struct{ l, fits, less string }{
		{"w3 _1 w3", "0-3 7", "0-1 3; 2-3 3"},
		{"b4 b3", "0-2 7", "0-1 4; 1-2 3"},
		{"w4 b3", "0-2 7", "0-1 4; 1-2 3"},
		{"b4 w3", "0-2 7", "0-1 4; 1-2 3"},
		{"w1 w1 _2 b1 _1 w1", "0-6 7", "0-4 5; 5-6 1"},
		{"b1 _1 b1 _1 b3", "0-5 7", "0-3 3; 4-5 3"},
		{"b9 b-2", "0-2 7", "0-1 9; 1-2 -2"},
	} {
		for width, want := range map[int]string{7: x.fits, 6: x.less} {
			if got, e := lines.Fill(items(x.l), width); e != api.OK || told(got) != want {
				t.Errorf("%s by %d: %s, error %d", x.l, width, told(got), e)
			}
		}
	}
}

// P10.1: all short lists of all kinds, and long ones by a fixed seed, against
// the chapter's words.
func TestAgainstHand(t *testing.T) {
	goOver(func(l []lines.Item, width int) { checkFill(t, l, width) })
}

// P10.1: just as many items as may be, and one more, whatever they are; and
// very many.
func TestMaxFrags(t *testing.T) {
	for _, x := range []struct {
		of    string
		width int
		many  int
	}{
		{"w1", 1, 1},
		{"_1", 1, 0},
		{"/", 1, maxFrags},
		{"b1", 1, maxFrags},
		{"b1", 2, maxFrags / 2},
		{"b0", 0, 1},
		{"w1 _1", 1, maxFrags / 2},
		{"w1 _1", 2 * maxFrags, 1},
		{"w1 /", 1, maxFrags / 2},
		{"bM", maxCoord, maxFrags},
		{"wM w-M", 0, 1},
		{"b-M bM", 0, 1},
	} {
		l := slices.Repeat(items(x.of), maxFrags+1)[:maxFrags+1]
		if got, e := lines.Fill(l[:maxFrags], x.width); e != api.OK || len(got) != x.many {
			t.Errorf("%s: %d lines, error %d", x.of, len(got), e)
		}
		checkFill(t, l[:maxFrags], x.width)
		for _, width := range []int{x.width, -1, maxCoord + 1} {
			if got, e := lines.Fill(l, width); e != api.ErrArg || len(got) > 0 {
				t.Errorf("%s, one more, by %d: %s, error %d", x.of, width, told(got), e)
			}
		}
	}
	for _, many := range []int{maxFrags + 2, 2 * maxFrags, 1000000} {
		if got, e := lines.Fill(make([]lines.Item, many), 1); e != api.ErrArg || len(got) > 0 {
			t.Errorf("%d items: %s, error %d", many, told(got), e)
		}
	}
	more := make([]lines.Item, maxFrags+1)
	more[7].Width = maxCoord + 1
	checkFill(t, more, 1)
}

// P10.1: each Kind that is none, wherever it stands, is refused ahead of
// whatever else; P0.2: with nothing beside the error.
func TestWrongKinds(t *testing.T) {
	for kind := 4; kind < 256; kind++ {
		for at := range 4 {
			l := items("w1 _1 / b1")
			l[at].Kind = uint8(kind)
			for _, width := range []int{5, 0, -1, maxCoord, maxCoord + 1, math.MaxInt, math.MinInt} {
				if got, e := lines.Fill(l, width); e != api.ErrArg || len(got) > 0 {
					t.Errorf("%v by %d: %s, error %d", l, width, told(got), e)
				}
			}
			l[3-at].Width = maxCoord + 1
			if got, e := lines.Fill(l, 5); e != api.ErrArg || len(got) > 0 {
				t.Errorf("%v: %s, error %d", l, told(got), e)
			}
		}
		if got, e := lines.Fill([]lines.Item{{Kind: uint8(kind)}}, 5); e != api.ErrArg || len(got) > 0 {
			t.Errorf("%d alone: %s, error %d", kind, told(got), e)
		}
	}
	for kind := range 4 {
		if _, e := lines.Fill([]lines.Item{{Kind: uint8(kind), Width: 1}}, 5); e != api.OK {
			t.Errorf("%d: error %d", kind, e)
		}
	}
}

// P10.1, P0.2: the width that is asked for: below 0 ErrArg, ahead of all that
// is no length; above the greatest length ErrOver; just that is one.
func TestAskedFor(t *testing.T) {
	for _, l := range []string{"", "_1", "/", "w1", "w1 _1 b1 / w1"} {
		for _, width := range []int{-1, -2, -maxCoord, -maxCoord - 1, math.MinInt + 1, math.MinInt} {
			if got, e := lines.Fill(items(l), width); e != api.ErrArg || len(got) > 0 {
				t.Errorf("%s by %d: %s, error %d", l, width, told(got), e)
			}
		}
		for _, width := range []int{maxCoord + 1, 1 << 41, math.MaxInt - 1, math.MaxInt} {
			if got, e := lines.Fill(items(l), width); e != api.ErrOver || len(got) > 0 {
				t.Errorf("%s by %d: %s, error %d", l, width, told(got), e)
			}
		}
		for _, width := range []int{0, 1, maxCoord - 1, maxCoord} {
			checkFill(t, items(l), width)
			if _, e := lines.Fill(items(l), width); e != api.OK {
				t.Errorf("%s by %d: error %d", l, width, e)
			}
		}
	}
}

// P10.1: an item's width that is no length tells ErrOver, of each kind, be it
// in a line or passed over; but ErrArg goes ahead of it.
func TestWidthsOfItems(t *testing.T) {
	for kind := range 4 {
		for _, width := range []int{maxCoord, -maxCoord, maxCoord - 1, 0} {
			l := []lines.Item{{Kind: uint8(kind), Width: width}}
			checkFill(t, l, 5)
			if _, e := lines.Fill(l, 5); e != api.OK {
				t.Errorf("%v: error %d", l, e)
			}
		}
		for _, width := range []int{maxCoord + 1, -maxCoord - 1, 1 << 41, math.MaxInt, math.MaxInt - 1, math.MinInt, math.MinInt + 1} {
			for at := range 5 {
				l := slices.Insert(items("_1 w1 / b1"), at, lines.Item{Kind: uint8(kind), Width: width})
				if got, e := lines.Fill(l, 5); e != api.ErrOver || len(got) > 0 {
					t.Errorf("%v: %s, error %d", l, told(got), e)
				}
				if got, e := lines.Fill(l, -1); e != api.ErrArg || len(got) > 0 {
					t.Errorf("%v by -1: %s, error %d", l, told(got), e)
				}
				l[(at+1)%5].Kind = 4
				if got, e := lines.Fill(l, 5); e != api.ErrArg || len(got) > 0 {
					t.Errorf("%v: %s, error %d", l, told(got), e)
				}
			}
		}
	}
}

// P10.1: a line's Width that is just a length, and one that is none; what the
// line would come to with more, or came to with less, isn't asked.
func TestWidthsOfLines(t *testing.T) {
	for _, x := range []struct {
		l     string
		width int
		want  string
		e     api.Errno
	}{
		// just a length
		{"wM", 5, "0-1 1099511627776", 0},
		{"bM", 5, "0-1 1099511627776", 0},
		{"bM b1", 5, "0-1 1099511627776; 1-2 1", 0},
		{"bM b1", maxCoord, "0-1 1099511627776; 1-2 1", 0},
		{"bM bM", maxCoord, "0-1 1099511627776; 1-2 1099511627776", 0},
		{"b1 _1 bM", maxCoord, "0-1 1; 2-3 1099511627776", 0},
		{"w1 _-1 wM", maxCoord, "0-3 1099511627776", 0},
		{"w-M", 5, "0-1 -1099511627776", 0},
		{"b-M b0", 5, "0-2 -1099511627776", 0},
		// none
		{"wM w1", 5, "", 10},
		{"wM w1", maxCoord, "", 10},
		{"w1 wM _1 b1", 0, "", 10},
		{"w-M w-1", 5, "", 10},
		{"b-M b-1", 5, "", 10},
		{"b-1 _-M b0", 0, "", 10},
		// none, behind lines that have one, and ahead of such
		{"w1 / w2 / wM w1", 5, "", 10},
		{"wM w1 / w1 / w2", 5, "", 10},
		{"w1 / b-M b-1 / w2", 5, "", 10},
		{"w1 / / b-M b-1", 5, "", 10},
		// on the way none, at its end one
		{"wM w1 w-1", 5, "0-3 1099511627776", 0},
		{"wM wM w-M w-M w7", 5, "0-5 7", 0},
		{"w-M w-1 w1", 5, "0-3 -1099511627776", 0},
		{"b-M b-1 b5 b9", 5, "0-4 -1099511627763", 0},
		{"b-M b-1 _1", 5, "", 10},
		{"wM w1 b-1", maxCoord, "0-3 1099511627776", 0},
		{"wM w1 b-1", maxCoord - 1, "", 10},
		{"b-M b-M bM _M w5", 5, "0-5 5", 0},
		// with one more none, which has no room
		{"bM _M wM wM w-M", maxCoord, "0-1 1099511627776; 2-5 1099511627776", 0},
	} {
		got, e := lines.Fill(items(x.l), x.width)
		if e != x.e || told(got) != x.want {
			t.Errorf("%s by %d: %s, error %d", x.l, x.width, told(got), e)
		}
		for _, width := range []int{0, 1, 5, 6, maxCoord - 1, maxCoord} {
			checkFill(t, items(x.l), width)
		}
	}
}

// P10.1: all short lists of widths around the bound, and long ones by a fixed
// seed: no sum of as many as may be passes an int.
func TestGreatWidths(t *testing.T) {
	for many := range 6 {
		listsOf(items("wM w1 w-M b-1 bM b-M _1 _-M /"), many, func(l []lines.Item) {
			checkFill(t, l, 1)
			checkFill(t, l, maxCoord)
		})
	}
	for _, of := range []string{"wM", "w-M", "b-M", "bM _M", "b-M _-M"} {
		for _, width := range []int{0, 1, maxCoord} {
			checkFill(t, slices.Repeat(items(of), maxFrags)[:maxFrags], width)
		}
	}
	r := rand.New(rand.NewSource(2))
	refused := 0
	for range 20000 {
		l := listBySeed(r, r.Intn(30), 1<<(30+r.Intn(11)), true)
		if r.Intn(10) == 0 && len(l) > 0 {
			l[r.Intn(len(l))].Width = maxCoord + r.Intn(2)
		}
		width := r.Intn(1 << (36 + r.Intn(5)))
		checkFill(t, l, width)
		if _, e := lines.Fill(l, width); e != api.OK {
			refused++
		}
	}
	if refused < 500 || refused > 15000 {
		t.Errorf("%d of 20000 refused", refused)
	}
}

// P10.2: the greatest Width, whatever else lines have; 0, if none is above it.
func TestWidest(t *testing.T) {
	for _, x := range []struct {
		widths []int
		want   int
	}{
		{nil, 0},
		{[]int{}, 0},
		{[]int{0}, 0},
		{[]int{7}, 7},
		{[]int{-7}, 0},
		{[]int{-7, -1, math.MinInt}, 0},
		{[]int{3, 5, 4}, 5},
		{[]int{5, 3, 4}, 5},
		{[]int{3, 4, 5}, 5},
		{[]int{-9, 1, 0}, 1},
		{[]int{5, 5}, 5},
		{[]int{maxCoord, maxCoord + 1}, maxCoord + 1},
		{[]int{math.MinInt, math.MaxInt, 0}, math.MaxInt},
		{[]int{math.MinInt, -maxCoord}, 0},
	} {
		l := make([]lines.Line, len(x.widths))
		for i, width := range x.widths {
			l[i] = lines.Line{From: 1000 - i, To: math.MaxInt - i, Width: width}
		}
		kept := slices.Clone(l)
		if got := lines.Widest(l); got != x.want {
			t.Errorf("%v: %d", x.widths, got)
		}
		if !slices.Equal(l, kept) {
			t.Errorf("%v: changed to %v", kept, l)
		}
	}
}

// P10.2: of what Fill tells.
func TestWidestOfFilled(t *testing.T) {
	goOver(func(l []lines.Item, width int) {
		came, _ := lines.Fill(l, width)
		want := 0
		for _, x := range linesByHand(l, width) {
			if x.Width > want {
				want = x.Width
			}
		}
		if got := lines.Widest(came); got != want {
			t.Errorf("%v by %d: %d, not %d", l, width, got, want)
		}
	})
}

// P0.4: a list that is handed in stays, its spare room too, and isn't kept;
// one that is empty, or nil, is no list.
func TestListStays(t *testing.T) {
	for _, x := range ordinary {
		room := append(items(x.l), items("w8 /9 b7")...)
		kept := slices.Clone(room)
		l := room[:len(room)-3]
		for _, width := range []int{0, x.width, maxCoord, -1, maxCoord + 1} {
			lines.Fill(l, width)
			if !slices.Equal(room, kept) {
				t.Fatalf("%s by %d: changed to %v", x.l, width, room)
			}
		}
		came, _ := lines.Fill(l, x.width)
		for i := range room {
			room[i] = lines.Item{Kind: 9, Width: -9}
		}
		if told(came) != x.want {
			t.Errorf("%s: what was told is %s now", x.l, told(came))
		}
	}
	for _, l := range [][]lines.Item{nil, {}, make([]lines.Item, 0, 5)} {
		if got, e := lines.Fill(l, 5); len(got) > 0 || e != api.OK {
			t.Errorf("nothing: %s, error %d", told(got), e)
		}
	}
}

// P0.4: what is told is the caller's: written over, its spare room too, it
// changes no later answer, and none that was told ahead of it.
func TestToldIsTheCallers(t *testing.T) {
	for _, x := range ordinary {
		ahead, _ := lines.Fill(items(x.l), x.width)
		came, _ := lines.Fill(items(x.l), x.width)
		came = came[:cap(came)]
		for i := range came {
			came[i] = lines.Line{From: -1, To: -1, Width: -1}
		}
		if told(ahead) != x.want {
			t.Errorf("%s: what was told is %s now", x.l, told(ahead))
		}
		if again, e := lines.Fill(items(x.l), x.width); told(again) != x.want || e != api.OK {
			t.Errorf("%s: again %s, error %d", x.l, told(again), e)
		}
	}
}

// P0.3: behind calls that are refused all are answered as ahead of them.
func TestRefusedChangesNothing(t *testing.T) {
	for _, x := range ordinary {
		lines.Fill(items(x.l), -1)
		lines.Fill(items(x.l), maxCoord+1)
		lines.Fill(items(x.l+" / w1 / wM w1"), x.width)
		lines.Fill(append(items(x.l), lines.Item{Kind: 4}), x.width)
		if got, e := lines.Fill(items(x.l), x.width); told(got) != x.want || e != api.OK {
			t.Errorf("%s: %s, error %d", x.l, told(got), e)
		}
	}
}
