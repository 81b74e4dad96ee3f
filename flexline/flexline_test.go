package flexline_test

import (
	"math"
	"math/rand"
	"slices"
	"testing"

	"windowpane/api"
	"windowpane/flexline"
)

// P15.1, P15.2: all rows of the chapter's examples.
func TestExamples(t *testing.T) {
	if got := flexline.Order(numbers("0 -1 0 -1")); !slices.Equal(got, numbers("1 3 0 2")) {
		t.Errorf("Order: %v", got)
	}
	for _, x := range []struct {
		sizes string
		h     how
		want  string
		e     api.Errno
	}{
		{"3 3 3", how{1, 7, true}, "0-2, 2-3", 0},
		{"3 3 3", how{1, 6, true}, "0-1, 1-2, 2-3", 0},
		{"3 3 3", how{1, 6, false}, "0-3", 0},
		{"3 3 3", how{1, 7, false}, "0-3", 0},
		{"9 1", how{0, 5, true}, "0-1, 1-2", 0},
		{"9 1", how{0, -1, true}, "0-2", 0},
		{"", how{0, 0, true}, "", 0},
		{"", how{1, 7, true}, "", 0},
		{"1", how{-1, 0, true}, "", 2},
		{"1", how{-1, 7, false}, "", 2},
	} {
		checkTold(t, x.sizes, x.h, x.want, x.e)
	}
}

// P15.1: the places of Orders that rise, that fall, that are equal, that are
// mixed, of one, and of none, by hand.
func TestOrder(t *testing.T) {
	for _, x := range []struct{ l, want string }{
		{"", ""},
		{"0", "0"},
		{"-7", "0"},
		{"G", "0"},
		{"L", "0"},
		{"1 2 3 4", "0 1 2 3"},
		{"-2 -1 0 5", "0 1 2 3"},
		{"4 3 2 1", "3 2 1 0"},
		{"5 0 -1 -2", "3 2 1 0"},
		{"0 0 0 0", "0 1 2 3"},
		{"7 7 7", "0 1 2"},
		{"-7 -7 -7", "0 1 2"},
		{"0 1", "0 1"},
		{"1 0", "1 0"},
		{"1 0 1", "1 0 2"},
		{"0 1 0", "0 2 1"},
		{"3 1 2 1 3 2", "1 3 2 5 0 4"},
		{"0 0 -1 0 0 1 0", "2 0 1 3 4 6 5"},
		{"2 2 1 1 0 0", "4 5 2 3 0 1"},
		{"10 9 -10 -9", "2 3 1 0"},
		{"M -M M+1 -M-1", "3 1 0 2"},
		{"G L 0 G L 0", "1 4 2 5 0 3"},
		{"0 L G", "1 0 2"},
		{"1 L", "1 0"},
		{"L G -1 1", "0 2 3 1"},
		{"-1 G", "0 1"},
	} {
		if got := flexline.Order(numbers(x.l)); !slices.Equal(got, numbers(x.want)) {
			t.Errorf("%s: %v, not %s", x.l, got, x.want)
		}
		checkOrder(t, numbers(x.l))
	}
}

// P15.1: all short rows of Orders, and others by a fixed seed.
func TestOrderAll(t *testing.T) {
	goOverOrders(func(l []int) { checkOrder(t, l) })
	r := rand.New(rand.NewSource(3))
	for range 3000 {
		l := make([]int, r.Intn(60))
		for i := range l {
			l[i] = int(r.Uint64()) >> r.Intn(64)
		}
		checkOrder(t, l)
	}
}

// P15.1: many Orders, also more than there may be boxes: none is refused.
func TestManyOrders(t *testing.T) {
	r := rand.New(rand.NewSource(4))
	for _, many := range []int{maxFrags - 1, maxFrags, maxFrags + 1, 2*maxFrags + 1} {
		rising, falling, equal := make([]int, many), make([]int, many), make([]int, many)
		for i := range many {
			rising[i], falling[i], equal[i] = i-7, 7-i, 7
		}
		for _, l := range [][]int{rising, falling, equal, bySeed(r, many, -1, 1), bySeed(r, many, -many, many)} {
			checkOrder(t, l)
		}
	}
	const many = 100000
	places := flexline.Order(bySeed(r, many, 3, 3))
	for i, place := range places {
		if place != i {
			t.Fatalf("of equal ones %d stands at %d", place, i)
		}
	}
	if len(places) != many {
		t.Errorf("%d places", len(places))
	}
}

// P15.2: lines by hand: of ordinary sizes, and at the edges that the chapter
// names.
func TestSplit(t *testing.T) {
	for _, x := range []struct {
		sizes string
		h     how
		want  string
	}{
		// one line, two, many
		{"3 4 5", how{0, 20, true}, "0-3"},
		{"3 4 5", how{2, 20, true}, "0-3"},
		{"3 4 5", how{2, 15, true}, "0-2, 2-3"},
		{"3 4 5", how{2, 10, true}, "0-2, 2-3"},
		{"3 4 5", how{2, 8, true}, "0-1, 1-2, 2-3"},
		{"5 4 3", how{2, 10, true}, "0-1, 1-3"},
		{"1 2 3 4 5 6 7", how{1, 8, true}, "0-3, 3-4, 4-5, 5-6, 6-7"},
		{"7 6 5 4 3 2 1", how{1, 8, true}, "0-1, 1-2, 2-3, 3-5, 5-7"},
		{"1 1 1 1 1 1 1", how{1, 3, true}, "0-2, 2-4, 4-6, 6-7"},
		{"1 1 1 1 1 1", how{0, 3, true}, "0-3, 3-6"},
		// just the room, and one more
		{"3 3 3", how{1, 11, true}, "0-3"},
		{"3 3 3", how{1, 10, true}, "0-2, 2-3"},
		{"3 3 3", how{0, 9, true}, "0-3"},
		{"3 3 3", how{0, 8, true}, "0-2, 2-3"},
		{"3 3", how{4, 10, true}, "0-2"},
		{"3 3", how{5, 10, true}, "0-1, 1-2"},
		{"3 4", how{4, 10, true}, "0-1, 1-2"},
		{"4 3", how{4, 10, true}, "0-1, 1-2"},
		{"7 3", how{0, 10, true}, "0-2"},
		{"8 3", how{0, 10, true}, "0-1, 1-2"},
		// a line's gaps are its own: none ahead of it, none behind it
		{"5 5 5 5", how{3, 13, true}, "0-2, 2-4"},
		{"13 13", how{3, 13, true}, "0-1, 1-2"},
		{"2 2 2 2", how{3, 7, true}, "0-2, 2-4"},
		// no boxes, and one
		{"", how{0, -1, true}, ""},
		{"", how{0, 0, false}, ""},
		{"", how{0, -1, false}, ""},
		{"3", how{1, 3, true}, "0-1"},
		{"3", how{1, 2, true}, "0-1"},
		{"3", how{1, 0, true}, "0-1"},
		{"3", how{1, -1, true}, "0-1"},
		{"3", how{1, 2, false}, "0-1"},
		{"3", how{1, -1, false}, "0-1"},
		{"-3", how{1, 0, true}, "0-1"},
		// one that is longer than the room: ahead of others, between, behind, side by side
		{"9 1 1", how{0, 5, true}, "0-1, 1-3"},
		{"1 9 1", how{0, 5, true}, "0-1, 1-2, 2-3"},
		{"1 1 9", how{0, 5, true}, "0-2, 2-3"},
		{"9 9 1", how{0, 5, true}, "0-1, 1-2, 2-3"},
		{"6 1", how{0, 5, true}, "0-1, 1-2"},
		{"5 1", how{0, 5, true}, "0-1, 1-2"},
		{"9 0", how{0, 5, true}, "0-1, 1-2"},
		{"5 0", how{0, 5, true}, "0-2"},
		{"5 0", how{1, 5, true}, "0-1, 1-2"},
		// a gap that is longer than the room
		{"1 1 1", how{9, 5, true}, "0-1, 1-2, 2-3"},
		{"0 0", how{6, 5, true}, "0-1, 1-2"},
		{"0 0", how{5, 5, true}, "0-2"},
		// a room of 0
		{"0 0 0", how{0, 0, true}, "0-3"},
		{"0 0 0", how{1, 0, true}, "0-1, 1-2, 2-3"},
		{"0 1 0", how{0, 0, true}, "0-1, 1-2, 2-3"},
		{"1 1", how{0, 0, true}, "0-1, 1-2"},
		{"0 0 1 -1 0", how{0, 0, true}, "0-2, 2-5"},
		// a room of 1
		{"0 1 0 1", how{0, 1, true}, "0-3, 3-4"},
		{"1 1", how{0, 1, true}, "0-1, 1-2"},
		// no room, and no wrapping
		{"9 9 9", how{9, -1, true}, "0-3"},
		{"9 9 9", how{9, -1, false}, "0-3"},
		{"9 9 9", how{9, 0, false}, "0-3"},
		{"9 9 9", how{9, 5, false}, "0-3"},
		{"9 9 9", how{9, 45, false}, "0-3"},
		// sizes of 0 and below 0
		{"0 0 0 0", how{2, 4, true}, "0-3, 3-4"},
		{"5 -1 1", how{0, 5, true}, "0-3"},
		{"5 -1 1", how{1, 5, true}, "0-2, 2-3"},
		{"9 -4 1", how{0, 5, true}, "0-2, 2-3"},
		{"9 -5 1", how{0, 5, true}, "0-3"},
		{"9 -5 1", how{1, 5, true}, "0-2, 2-3"},
		{"9 -3 -3", how{0, 5, true}, "0-1, 1-3"},
		{"3 3 -3", how{0, 5, true}, "0-1, 1-3"},
		{"-9 9 5 1", how{0, 5, true}, "0-3, 3-4"},
		{"-9 9 5 1", how{1, 5, true}, "0-2, 2-3, 3-4"},
		{"-1 -1 -1", how{0, 0, true}, "0-3"},
		{"-1 -1 -1", how{2, 0, true}, "0-2, 2-3"},
	} {
		checkTold(t, x.sizes, x.h, x.want, 0)
	}
}

// P15.2: all short rows of sizes, and others by a fixed seed.
func TestSplitAll(t *testing.T) {
	goOver(func(sizes []int, h how) {
		if e := check(t, sizes, h); e != api.OK {
			t.Fatalf("%v by %v: error %d", sizes, h, e)
		}
	})
}

// P15.2: sizes and gaps that come to more than a length together are no error,
// whatever the room is.
func TestTogetherNoLength(t *testing.T) {
	for _, x := range []struct {
		sizes string
		h     how
		want  string
	}{
		{"M M M", how{0, maxCoord, true}, "0-1, 1-2, 2-3"},
		{"M M M", how{maxCoord, -1, true}, "0-3"},
		{"M M M", how{maxCoord, maxCoord, false}, "0-3"},
		{"M M M", how{maxCoord, 0, false}, "0-3"},
		{"M 0", how{0, maxCoord, true}, "0-2"},
		{"M 0", how{1, maxCoord, true}, "0-1, 1-2"},
		{"M 1", how{0, maxCoord, true}, "0-1, 1-2"},
		{"M-1 1", how{0, maxCoord, true}, "0-2"},
		{"M-1 1", how{1, maxCoord, true}, "0-1, 1-2"},
		{"0 0", how{maxCoord, maxCoord, true}, "0-2"},
		{"0 0 0", how{maxCoord, maxCoord, true}, "0-2, 2-3"},
		{"0 1", how{maxCoord, maxCoord, true}, "0-1, 1-2"},
		{"-M M", how{maxCoord, maxCoord, true}, "0-2"},
		{"-M M 1", how{0, 0, true}, "0-2, 2-3"},
		{"-M -M M M", how{0, 0, true}, "0-4"},
		{"-M -M -M", how{0, 0, true}, "0-3"},
		{"M -M 1", how{0, 1, true}, "0-3"},
		{"M M -M", how{0, maxCoord, true}, "0-1, 1-3"},
		{"M -1 1 M", how{0, maxCoord, true}, "0-3, 3-4"},
	} {
		checkTold(t, x.sizes, x.h, x.want, 0)
	}
	for _, size := range numbers("M M-1 1 0 -1 -M+1 -M") {
		for _, gap := range numbers("0 1 M-1 M") {
			for _, room := range numbers("-1 0 1 M-1 M") {
				sizes := slices.Repeat([]int{size}, maxFrags)
				check(t, sizes, how{gap, room, false})
				check(t, sizes[:200], how{gap, room, true})
			}
		}
	}
}

// P15.2: a gap below 0, and a room below -1, are ErrArg, whatever the boxes
// are, with and without wrapping, and beside whatever is no length.
func TestErrArg(t *testing.T) {
	below := numbers("-1 -2 -M -M-1 L")
	for _, sizes := range []string{"", "1", "1 2 3", "-1", "M", "M+1", "-M-1", "1 G 2", "L 1"} {
		for _, wrap := range []bool{false, true} {
			for _, gap := range below {
				for _, room := range numbers("-1 0 1 7 M M+1 G -2 L") {
					checkTold(t, sizes, how{gap, room, wrap}, "", 2)
				}
			}
			for _, room := range below[1:] {
				for _, gap := range numbers("0 1 7 M M+1 G -1 L") {
					checkTold(t, sizes, how{gap, room, wrap}, "", 2)
				}
			}
		}
	}
}

// P15.2: a size, a gap, a room that is no length is ErrOver, even if nothing
// that is told hangs on it.
func TestErrOver(t *testing.T) {
	for _, wrap := range []bool{false, true} {
		for _, over := range []string{"M+1", "-M-1", "G", "L"} {
			for _, h := range []how{{0, -1, wrap}, {0, 0, wrap}, {1, 7, wrap}, {maxCoord, maxCoord, wrap}, {maxCoord + 1, math.MaxInt, wrap}} {
				for _, sizes := range []string{over, over + " 1", "1 " + over, "1 2 " + over + " 3", "9 9 9 " + over, "M -M " + over, over + " " + over} {
					checkTold(t, sizes, h, "", 10)
				}
			}
		}
		for _, sizes := range []string{"", "1", "1 2 3", "M -M"} {
			for _, over := range []int{maxCoord + 1, math.MaxInt} {
				for _, other := range numbers("0 1 7 M") {
					checkTold(t, sizes, how{over, other, wrap}, "", 10)
					checkTold(t, sizes, how{other, over, wrap}, "", 10)
				}
				checkTold(t, sizes, how{over, -1, wrap}, "", 10)
				checkTold(t, sizes, how{over, over, wrap}, "", 10)
			}
		}
	}
}

// edges are numbers about which an answer may change.
var edges = append(numbers("-M -M+1 -5 -2 -1 0 1 5 M-1 M"), noLengths...)

// P15.2: each size, the gap and the room at each edge, and each two of them.
func TestEachNumber(t *testing.T) {
	for _, wrap := range []bool{false, true} {
		for many := range 4 {
			for at := range many {
				for _, size := range edges {
					sizes := []int{5, 1, 3}[:many]
					sizes[at] = size
					for _, n := range edges {
						check(t, sizes, how{n, 5, wrap})
						check(t, sizes, how{1, n, wrap})
						two := slices.Clone(sizes)
						two[0] = n
						check(t, two, how{1, 5, wrap})
					}
				}
			}
			for _, gap := range edges {
				for _, room := range edges {
					check(t, []int{5, 1, 3}[:many], how{gap, room, wrap})
				}
			}
		}
	}
}

// P15.2: sizes about the bound, by a fixed seed, of which some are refused, and
// some aren't.
func TestGreatBySeed(t *testing.T) {
	r := rand.New(rand.NewSource(5))
	many := map[api.Errno]int{}
	for i := range 20000 {
		sizes := bySeed(r, r.Intn(8), -maxCoord*(i%2), maxCoord+maxCoord/8)
		many[check(t, sizes, how{r.Intn(maxCoord >> r.Intn(40)), r.Intn(maxCoord + maxCoord/8), i%8 != 0})]++
	}
	if many[0] < 5000 || many[10] < 5000 {
		t.Errorf("only %v", many)
	}
}

// P15.2: numbers by a fixed seed, of whatever an int holds.
func TestWild(t *testing.T) {
	r := rand.New(rand.NewSource(6))
	some := func() int { return int(r.Uint64()) >> r.Intn(64) }
	many := map[api.Errno]int{}
	for range 100000 {
		sizes := make([]int, r.Intn(4))
		for i := range sizes {
			sizes[i] = some()
		}
		many[check(t, sizes, how{some(), some(), r.Intn(2) == 0})]++
	}
	if many[0] < 1000 || many[2] < 1000 || many[10] < 1000 {
		t.Errorf("only %v", many)
	}
}

// P15.2: just MaxFrags boxes, and one more, whatever else is wrong.
func TestMaxFrags(t *testing.T) {
	for _, x := range []struct {
		many       int
		want, over api.Errno
	}{
		{maxFrags - 1, 0, 10}, {maxFrags, 0, 10}, {maxFrags + 1, 2, 2}, {maxFrags + 2, 2, 2}, {3 * maxFrags, 2, 2},
	} {
		for _, h := range []how{{0, 1, true}, {1, 7, true}, {0, -1, true}, {1, 3, false}} {
			sizes := slices.Repeat([]int{1}, x.many)
			if e := check(t, sizes, h); e != x.want {
				t.Errorf("%d by %v: error %d, not %d", x.many, h, e, x.want)
			}
			sizes[x.many-1] = maxCoord + 1
			if e := check(t, sizes, h); e != x.over {
				t.Errorf("%d by %v, one of them too great: error %d, not %d", x.many, h, e, x.over)
			}
			if e := check(t, sizes, how{-1, h.room, h.wrap}); e != 2 {
				t.Errorf("%d with a gap of -1: error %d", x.many, e)
			}
		}
	}
	// A piece of more boxes than may be is no more than it has itself.
	piece, e := flexline.Split(make([]int, 3*maxFrags)[:maxFrags], 0, 0, true)
	if e != api.OK || told(piece) != "0-2048" {
		t.Errorf("a piece: %s, error %d", told(piece), e)
	}
	lines, e := flexline.Split(slices.Repeat([]int{2}, maxFrags), 1, 5, true)
	if e != api.OK || len(lines) != maxFrags/2 || lines[maxFrags/2-1] != (flexline.Line{From: maxFrags - 2, To: maxFrags}) {
		t.Errorf("%d lines, error %d", len(lines), e)
	}
	lines, e = flexline.Split(slices.Repeat([]int{maxCoord}, maxFrags), maxCoord, maxCoord, true)
	if e != api.OK || len(lines) != maxFrags {
		t.Errorf("%d lines, error %d", len(lines), e)
	}
}

// P0.1, P0.4: a nil row and an empty one are the same, whatever stands behind
// it.
func TestNothing(t *testing.T) {
	room := numbers("7 G -1")
	for i, l := range [][]int{nil, {}, room[:0], room[3:]} {
		if places := flexline.Order(l); len(places) > 0 {
			t.Errorf("%d: places %v", i, places)
		}
		for _, h := range []how{{0, 0, true}, {1, 7, true}, {0, -1, true}, {1, 7, false}, {maxCoord, maxCoord, true}} {
			if lines, e := flexline.Split(l, h.gap, h.room, h.wrap); len(lines) > 0 || e != api.OK {
				t.Errorf("%d by %v: %s, error %d", i, h, told(lines), e)
			}
		}
	}
}

// P0.4: the row that is handed in stays, what stands ahead of it and behind it
// neither counts nor changes, and nothing of it is kept.
func TestRowStays(t *testing.T) {
	row := numbers("L 3 1 3 2 G")
	was := slices.Clone(row)
	places := flexline.Order(row[1:5])
	lines, e := flexline.Split(row[1:5], 1, 5, true)
	if !slices.Equal(row, was) {
		t.Errorf("the row is %v", row)
	}
	for i := range row {
		row[i] = 1 - i
	}
	if !slices.Equal(places, numbers("1 3 0 2")) || told(lines) != "0-2, 2-3, 3-4" || e != api.OK {
		t.Errorf("%v; %s, error %d", places, told(lines), e)
	}
}

// P0.4: what is answered is new memory, with the room behind it.
func TestNewMemory(t *testing.T) {
	l := numbers("3 1 3 2 1")
	h := how{1, 5, true}
	wantPlaces, wantLines := orderByHand(l), linesByHand(l, h)
	places, second := flexline.Order(l), flexline.Order(l)
	lines, secondLines := splitOf(l, h), splitOf(l, h)
	for i := range places[:cap(places)] {
		places[:cap(places)][i] = math.MinInt
	}
	for i := range lines[:cap(lines)] {
		lines[:cap(lines)][i] = flexline.Line{From: -1, To: -1}
	}
	if third := flexline.Order(l); !slices.Equal(second, wantPlaces) || !slices.Equal(third, wantPlaces) {
		t.Errorf("%v, %v", second, third)
	}
	if third := splitOf(l, h); !slices.Equal(secondLines, wantLines) || !slices.Equal(third, wantLines) {
		t.Errorf("%s, %s", told(secondLines), told(third))
	}
	if !slices.Equal(l, numbers("3 1 3 2 1")) {
		t.Errorf("the row is %v", l)
	}
}

// splitOf tells the lines alone.
func splitOf(sizes []int, h how) []flexline.Line {
	l, _ := flexline.Split(sizes, h.gap, h.room, h.wrap)
	return l
}

// P0.3: behind calls that are refused all are answered as ahead of them.
func TestRefusedChangesNothing(t *testing.T) {
	sizes := numbers("3 3 3")
	flexline.Split(sizes, -1, 7, true)
	flexline.Split(sizes, 1, -2, true)
	flexline.Split(sizes, maxCoord+1, 7, true)
	flexline.Split(numbers("1 M+1"), 1, 7, true)
	flexline.Split(make([]int, maxFrags+1), 1, 7, true)
	checkTold(t, "3 3 3", how{1, 7, true}, "0-2, 2-3", 0)
	checkTold(t, "3 3 3", how{1, 7, false}, "0-3", 0)
}
