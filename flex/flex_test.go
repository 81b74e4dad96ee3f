package flex_test

import (
	"math"
	"math/rand"
	"slices"
	"testing"

	"windowpane/api"
	"windowpane/flex"
)

// told are boxes, what they stand by, and where they begin.
type told struct {
	outer string
	h     how
	want  string
}

func checkAll(t *testing.T, rows []told) {
	t.Helper()
	for _, x := range rows {
		checkTold(t, x.outer, x.h, x.want, 0)
	}
}

// P17.1, P17.2: all rows of the chapter's examples.
func TestExamples(t *testing.T) {
	checkAll(t, []told{
		{"10 20", how{5, 65, atStart, false}, "0 15"},
		{"10 20", how{5, 65, atEnd, false}, "30 45"},
		{"10 20", how{5, 65, atMiddle, false}, "15 30"},
		{"10 20", how{5, 65, between, false}, "0 45"},
		{"10 20", how{5, 65, evenly, false}, "10 35"},
		{"10 20", how{5, 65, atStart, true}, "55 30"},
		{"10 20", how{5, 65, between, true}, "55 0"},
		{"10 20", how{5, 20, atMiddle, false}, "-7 8"},
		{"10 20", how{5, 20, between, false}, "0 15"},
	})
	checkTold(t, "10 20", how{5, 65, stretch, false}, "", 2)
	checkTold(t, "10 20", how{-1, 65, atStart, false}, "", 2)
	checkCrossTold(t, "10", "25", atEnd, "15", 0)
	checkCrossTold(t, "10", "25", atMiddle, "7", 0)
	checkCrossTold(t, "10", "25", stretch, "0", 0)
	checkCrossTold(t, "10", "25", between, "0", 2)
}

// P17.1: boxes in a room that is wider than all of them, by hand.
func TestWide(t *testing.T) {
	checkAll(t, []told{
		// one box
		{"10", how{5, 30, atStart, false}, "0"},
		{"10", how{5, 30, atEnd, false}, "20"},
		{"10", how{5, 30, atMiddle, false}, "10"},
		{"10", how{5, 30, between, false}, "0"},
		{"10", how{5, 30, evenly, false}, "10"},
		{"10", how{5, 30, atStart, true}, "20"},
		{"10", how{5, 30, atEnd, true}, "0"},
		{"10", how{5, 30, atMiddle, true}, "10"},
		{"10", how{5, 30, between, true}, "20"},
		{"10", how{5, 30, evenly, true}, "10"},
		// two of them
		{"10 20", how{0, 60, atStart, false}, "0 10"},
		{"10 20", how{0, 60, atEnd, false}, "30 40"},
		{"10 20", how{0, 60, atMiddle, false}, "15 25"},
		{"10 20", how{0, 60, between, false}, "0 40"},
		{"10 20", how{0, 60, evenly, false}, "10 30"},
		{"10 20", how{0, 60, atStart, true}, "50 30"},
		{"10 20", how{0, 60, atEnd, true}, "20 0"},
		{"10 20", how{0, 60, atMiddle, true}, "35 15"},
		{"10 20", how{0, 60, between, true}, "50 0"},
		{"10 20", how{0, 60, evenly, true}, "40 10"},
		// three, and gaps of 2: 24 is left
		{"10 20 6", how{2, 64, atStart, false}, "0 12 34"},
		{"10 20 6", how{2, 64, atEnd, false}, "24 36 58"},
		{"10 20 6", how{2, 64, atMiddle, false}, "12 24 46"},
		{"10 20 6", how{2, 64, between, false}, "0 24 58"},
		{"10 20 6", how{2, 64, evenly, false}, "6 24 52"},
		{"10 20 6", how{2, 64, atStart, true}, "54 32 24"},
		{"10 20 6", how{2, 64, atEnd, true}, "30 8 0"},
		{"10 20 6", how{2, 64, atMiddle, true}, "42 20 12"},
		{"10 20 6", how{2, 64, between, true}, "54 20 0"},
		{"10 20 6", how{2, 64, evenly, true}, "48 20 6"},
		// many: 16 is left
		{"1 1 1 1 1 1 1", how{1, 29, atStart, false}, "0 2 4 6 8 10 12"},
		{"1 1 1 1 1 1 1", how{1, 29, atEnd, false}, "16 18 20 22 24 26 28"},
		{"1 1 1 1 1 1 1", how{1, 29, atMiddle, false}, "8 10 12 14 16 18 20"},
		{"1 1 1 1 1 1 1", how{1, 29, evenly, false}, "2 6 10 14 18 22 26"},
		{"1 1 1 1 1 1 1", how{1, 31, between, false}, "0 5 10 15 20 25 30"},
	})
}

// P17.1: what is left over by 1s goes to the places that stand ahead; backwards
// these are at the end.
func TestUnlikeShares(t *testing.T) {
	checkAll(t, []told{
		// three places between: 1 is left, 2, 3, 4, 5
		{"1 1 1 1", how{0, 5, between, false}, "0 2 3 4"},
		{"1 1 1 1", how{0, 6, between, false}, "0 2 4 5"},
		{"1 1 1 1", how{0, 7, between, false}, "0 2 4 6"},
		{"1 1 1 1", how{0, 8, between, false}, "0 3 5 7"},
		{"1 1 1 1", how{0, 9, between, false}, "0 3 6 8"},
		{"1 1 1 1", how{3, 15, between, false}, "0 5 10 14"},
		{"1 1 1 1", how{0, 5, between, true}, "4 2 1 0"},
		{"1 1 1 1", how{0, 8, between, true}, "7 4 2 0"},
		// one place between gets all
		{"1 1", how{0, 9, between, false}, "0 8"},
		{"1 1", how{7, 10, between, false}, "0 9"},
		// four places in all: 1 is left, 2, 3, 4, 5, 6
		{"1 1 1", how{0, 4, evenly, false}, "1 2 3"},
		{"1 1 1", how{0, 5, evenly, false}, "1 3 4"},
		{"1 1 1", how{0, 6, evenly, false}, "1 3 5"},
		{"1 1 1", how{0, 7, evenly, false}, "1 3 5"},
		{"1 1 1", how{0, 8, evenly, false}, "2 4 6"},
		{"1 1 1", how{0, 9, evenly, false}, "2 5 7"},
		{"1 1 1", how{2, 8, evenly, false}, "1 4 7"},
		{"1 1 1", how{0, 4, evenly, true}, "2 1 0"},
		{"1 1 1", how{0, 8, evenly, true}, "5 3 1"},
		{"1 1 1", how{0, 9, evenly, true}, "6 3 1"},
		// one box: the place ahead of it, and that behind it
		{"4", how{0, 5, evenly, false}, "1"},
		{"4", how{0, 6, evenly, false}, "1"},
		{"4", how{0, 7, evenly, false}, "2"},
		{"4", how{0, 7, evenly, true}, "1"},
	})
}

// P17.1: half of what is left is rounded to 0, from above and from below.
func TestHalf(t *testing.T) {
	checkAll(t, []told{
		{"10", how{0, 14, atMiddle, false}, "2"},
		{"10", how{0, 13, atMiddle, false}, "1"},
		{"10", how{0, 12, atMiddle, false}, "1"},
		{"10", how{0, 11, atMiddle, false}, "0"},
		{"10", how{0, 10, atMiddle, false}, "0"},
		{"10", how{0, 9, atMiddle, false}, "0"},
		{"10", how{0, 8, atMiddle, false}, "-1"},
		{"10", how{0, 7, atMiddle, false}, "-1"},
		{"10", how{0, 6, atMiddle, false}, "-2"},
		{"10", how{0, 13, atMiddle, true}, "2"},
		{"10", how{0, 11, atMiddle, true}, "1"},
		{"10", how{0, 9, atMiddle, true}, "-1"},
		{"10", how{0, 7, atMiddle, true}, "-2"},
		{"3 4", how{2, 12, atMiddle, false}, "1 6"},
		{"3 4", how{2, 6, atMiddle, false}, "-1 4"},
		{"3 4", how{2, 12, atMiddle, true}, "8 2"},
		{"3 4", how{2, 6, atMiddle, true}, "4 -2"},
	})
}

// P17.1: where what is left is 1, 0, -1, of one box, of two, of three.
func TestHardlyLeft(t *testing.T) {
	checkAll(t, []told{
		{"5", how{3, 6, between, false}, "0"}, {"5", how{3, 5, between, false}, "0"}, {"5", how{3, 4, between, false}, "0"},
		{"5", how{3, 6, evenly, false}, "1"}, {"5", how{3, 5, evenly, false}, "0"}, {"5", how{3, 4, evenly, false}, "0"},
		{"5", how{3, 6, between, true}, "1"}, {"5", how{3, 5, between, true}, "0"}, {"5", how{3, 4, between, true}, "-1"},
		{"5", how{3, 6, evenly, true}, "0"}, {"5", how{3, 5, evenly, true}, "0"}, {"5", how{3, 4, evenly, true}, "-1"},
		{"5 7", how{3, 16, between, false}, "0 9"}, {"5 7", how{3, 15, between, false}, "0 8"}, {"5 7", how{3, 14, between, false}, "0 8"},
		{"5 7", how{3, 16, evenly, false}, "1 9"}, {"5 7", how{3, 15, evenly, false}, "0 8"}, {"5 7", how{3, 14, evenly, false}, "0 8"},
		{"5 7", how{3, 16, atEnd, false}, "1 9"}, {"5 7", how{3, 15, atEnd, false}, "0 8"}, {"5 7", how{3, 14, atEnd, false}, "-1 7"},
		{"5 7", how{3, 16, atStart, false}, "0 8"}, {"5 7", how{3, 15, atStart, false}, "0 8"}, {"5 7", how{3, 14, atStart, false}, "0 8"},
		{"5 7 1", how{0, 14, between, false}, "0 6 13"}, {"5 7 1", how{0, 13, between, false}, "0 5 12"}, {"5 7 1", how{0, 12, between, false}, "0 5 12"},
		{"5 7 1", how{0, 14, evenly, false}, "1 6 13"}, {"5 7 1", how{0, 13, evenly, false}, "0 5 12"}, {"5 7 1", how{0, 12, evenly, false}, "0 5 12"},
	})
}

// P17.1: boxes in a room that is narrower than they are, by hand.
func TestNarrow(t *testing.T) {
	checkAll(t, []told{
		{"10 20 6", how{2, 30, atStart, false}, "0 12 34"},
		{"10 20 6", how{2, 30, atEnd, false}, "-10 2 24"},
		{"10 20 6", how{2, 30, atMiddle, false}, "-5 7 29"},
		{"10 20 6", how{2, 30, between, false}, "0 12 34"},
		{"10 20 6", how{2, 30, evenly, false}, "0 12 34"},
		{"10 20 6", how{2, 30, atStart, true}, "20 -2 -10"},
		{"10 20 6", how{2, 30, atEnd, true}, "30 8 0"},
		{"10 20 6", how{2, 30, atMiddle, true}, "25 3 -5"},
		{"10 20 6", how{2, 30, between, true}, "20 -2 -10"},
		{"10 20 6", how{2, 30, evenly, true}, "20 -2 -10"},
		// no room
		{"10 20", how{5, 0, atStart, false}, "0 15"},
		{"10 20", how{5, 0, atEnd, false}, "-35 -20"},
		{"10 20", how{5, 0, atMiddle, false}, "-17 -2"},
		{"10 20", how{5, 0, between, false}, "0 15"},
		{"10 20", how{5, 0, evenly, false}, "0 15"},
		{"10 20", how{5, 0, atStart, true}, "-10 -35"},
		{"0 0", how{0, 0, atEnd, false}, "0 0"},
		{"0 0", how{0, 0, evenly, false}, "0 0"},
		{"0 0", how{0, 0, between, true}, "0 0"},
		{"0", how{9, 0, atMiddle, false}, "0"},
		// the gap alone is wider than the room
		{"0 0", how{9, 5, atMiddle, false}, "-2 7"},
		{"0 0", how{9, 5, between, false}, "0 9"},
	})
}

// P17.1: sizes of 0 and below 0, by hand.
func TestSmallSizes(t *testing.T) {
	checkAll(t, []told{
		{"0 0 0", how{0, 12, atStart, false}, "0 0 0"},
		{"0 0 0", how{2, 12, atStart, false}, "0 2 4"},
		{"0 0 0", how{0, 12, atEnd, false}, "12 12 12"},
		{"0 0 0", how{0, 12, atMiddle, false}, "6 6 6"},
		{"0 0 0", how{0, 12, between, false}, "0 6 12"},
		{"0 0 0", how{0, 12, evenly, false}, "3 6 9"},
		{"0 5 0", how{0, 12, between, true}, "12 3 0"},
		// more is left than the room
		{"-4", how{0, 10, atStart, false}, "0"},
		{"-4", how{0, 10, atEnd, false}, "14"},
		{"-4", how{0, 10, atMiddle, false}, "7"},
		{"-4", how{0, 10, evenly, false}, "7"},
		{"-4", how{0, 10, atStart, true}, "14"},
		{"-4", how{0, 10, atEnd, true}, "0"},
		{"-4", how{0, 0, atEnd, false}, "4"},
		{"10 -4 6", how{1, 20, atStart, false}, "0 11 8"},
		{"10 -4 6", how{1, 20, atEnd, false}, "6 17 14"},
		{"10 -4 6", how{1, 20, atMiddle, false}, "3 14 11"},
		{"10 -4 6", how{1, 20, between, false}, "0 14 14"},
		{"10 -4 6", how{1, 20, evenly, false}, "2 15 13"},
		{"10 -4 6", how{1, 20, atStart, true}, "10 13 6"},
		{"10 -4 6", how{1, 20, between, true}, "10 10 0"},
		{"-4 -4", how{0, 0, between, false}, "0 4"},
	})
}

// P17.2: boxes across a line, by hand.
func TestCross(t *testing.T) {
	for _, x := range []struct {
		outer, room                  string
		start, end, middle, stretchs string
	}{
		{"10", "25", "0", "15", "7", "0"},
		{"10", "24", "0", "14", "7", "0"},
		{"10", "12", "0", "2", "1", "0"},
		{"10", "11", "0", "1", "0", "0"},
		{"10", "10", "0", "0", "0", "0"},
		{"10", "9", "0", "-1", "0", "0"},
		{"10", "8", "0", "-2", "-1", "0"},
		{"10", "7", "0", "-3", "-1", "0"},
		{"10", "0", "0", "-10", "-5", "0"},
		{"11", "0", "0", "-11", "-5", "0"},
		{"0", "25", "0", "25", "12", "0"},
		{"0", "0", "0", "0", "0", "0"},
		{"-3", "0", "0", "3", "1", "0"},
		{"-3", "10", "0", "13", "6", "0"},
		{"M", "M", "0", "0", "0", "0"},
		{"0", "M", "0", "M", "549755813888", "0"},
		{"M", "0", "0", "-M", "-549755813888", "0"},
		{"1", "M", "0", "M-1", "549755813887", "0"},
		{"M-1", "0", "0", "-M+1", "-549755813887", "0"},
		{"-M", "0", "0", "M", "549755813888", "0"},
	} {
		checkCrossTold(t, x.outer, x.room, atStart, x.start, 0)
		checkCrossTold(t, x.outer, x.room, atEnd, x.end, 0)
		checkCrossTold(t, x.outer, x.room, atMiddle, x.middle, 0)
		checkCrossTold(t, x.outer, x.room, stretch, x.stretchs, 0)
	}
}

// P17.2: what is left across a line isn't asked, only what is told.
func TestCrossFar(t *testing.T) {
	for _, x := range []struct{ outer, room, middle string }{
		{"-1", "M", "549755813888"},
		{"-2", "M", "549755813889"},
		{"-M", "1", "549755813888"},
		{"-M", "2", "549755813889"},
		{"-M+1", "M", "M-1"},
		{"-M", "M-1", "M-1"},
		{"-M", "M", "M"},
	} {
		checkCrossTold(t, x.outer, x.room, atMiddle, x.middle, 0)
		checkCrossTold(t, x.outer, x.room, atStart, "0", 0)
		checkCrossTold(t, x.outer, x.room, stretch, "0", 0)
		checkCrossTold(t, x.outer, x.room, atEnd, "0", 10)
	}
}

// P17.2: each way to stand across a line that a number can be, beside rooms and
// sizes that may be and such as may not: what is ErrArg goes ahead.
func TestCrossRefused(t *testing.T) {
	numbers := append([]int{0, 1, -1, 10, -10, maxCoord, -maxCoord, maxCoord - 1, 1 - maxCoord}, noLengths...)
	many := map[api.Errno]int{}
	for align := range 256 {
		for _, outer := range numbers {
			for _, room := range numbers {
				many[checkCross(t, outer, room, uint8(align))]++
			}
		}
	}
	if many[0] < 100 || many[10] < 300 || many[2] < 250*len(numbers)*len(numbers) {
		t.Errorf("only %v", many)
	}
	for _, align := range []uint8{between, evenly, none, 7, 128, 254, 255} {
		for _, room := range noLengths {
			checkCrossTold(t, "G", "G", align, "0", 2)
			if at, e := flex.Cross(1, room, align); at != 0 || e != api.ErrArg {
				t.Errorf("align %d in %d: %d, error %d", align, room, at, e)
			}
		}
	}
	for _, align := range acrossWays {
		checkCrossTold(t, "1", "-1", align, "0", 2)
		checkCrossTold(t, "G", "-1", align, "0", 2)
		checkCrossTold(t, "L", "L", align, "0", 2)
		checkCrossTold(t, "1", "-M-1", align, "0", 2)
		checkCrossTold(t, "1", "M+1", align, "0", 10)
		checkCrossTold(t, "M+1", "1", align, "0", 10)
		checkCrossTold(t, "-M-1", "1", align, "0", 10)
		checkCrossTold(t, "M+1", "M+1", align, "0", 10)
		checkCrossTold(t, "G", "G", align, "0", 10)
		checkCrossTold(t, "L", "0", align, "0", 10)
	}
}

// P17.2: numbers by a fixed seed, near the bound and of whatever an int holds.
func TestCrossBySeed(t *testing.T) {
	r := rand.New(rand.NewSource(2))
	some := func() int {
		if r.Intn(2) == 0 {
			return int(r.Uint64()) >> r.Intn(64)
		}
		return maxCoord - maxCoord>>r.Intn(42) + r.Intn(9) - 4
	}
	many := map[api.Errno]int{}
	for range 300000 {
		many[checkCross(t, some()*(1-2*r.Intn(2)), some(), uint8(r.Intn(7)))]++
	}
	if many[0] < 20000 || many[2] < 20000 || many[10] < 20000 {
		t.Errorf("only %v", many)
	}
}

// P17.1: boxes of all kinds, none of which is refused.
func TestGoOver(t *testing.T) {
	many := map[uint8]int{}
	goOver(func(outer []int, h how) {
		if e := check(t, outer, h); e != api.OK {
			t.Fatalf("%v by %v: error %d", outer, h, e)
		}
		many[h.justify]++
	})
	for _, justify := range alongWays {
		if many[justify] < 50000 {
			t.Errorf("justify %d: only %d", justify, many[justify])
		}
	}
}

// refusedAll asks that boxes are refused, each way they stand.
func refusedAll(t *testing.T, outer []int, gap, room int, want api.Errno) {
	t.Helper()
	eachWay(gap, room, func(h how) {
		t.Helper()
		if begins, e := flex.Main(outer, gap, room, h.justify, h.back); begins != nil || e != want {
			t.Errorf("%v by %v: %v, error %d, not %d", short(outer), h, short(begins), e, want)
		}
		check(t, outer, h)
	})
}

// P17.1: each number that is handed in, at the bound and beyond it.
func TestEdges(t *testing.T) {
	for at := range 3 {
		for _, n := range []int{maxCoord, -maxCoord} {
			outer := []int{0, 0, 0}
			outer[at] = n
			room := max(n, 0)
			eachWay(0, room, func(h how) {
				if e := check(t, outer, h); e != api.OK {
					t.Errorf("%v by %v: error %d", outer, h, e)
				}
			})
		}
		for _, n := range noLengths {
			outer := []int{1, 1, 1}
			outer[at] = n
			refusedAll(t, outer, 0, 9, 10)
			refusedAll(t, outer, maxCoord, 0, 10)
			refusedAll(t, outer[at:at+1], 0, 9, 10)
		}
	}
	eachWay(maxCoord, maxCoord, func(h how) {
		if e := check(t, []int{0, 0}, h); e != api.OK {
			t.Errorf("by %v: error %d", h, e)
		}
	})
	for _, s := range []string{"", "0", "1 1", "1 2 3", "M", "-M"} {
		for _, n := range noLengths {
			want := api.ErrOver
			if n < 0 {
				want = api.ErrArg
			}
			refusedAll(t, numbers(s), n, 9, want)
			refusedAll(t, numbers(s), 0, n, want)
			refusedAll(t, numbers(s), n, n, want)
		}
	}
}

// P17.1: what is ErrArg goes ahead of what is ErrOver: of a size, a gap, a room,
// what is left, what is told.
func TestArgFirst(t *testing.T) {
	rows := []string{"", "1", "1 1", "M+1", "-M-1", "1 G", "L 1", "M M", "M -M -M", "-M -M"}
	for _, s := range rows {
		for _, x := range []struct{ gap, room int }{
			{-1, 5}, {0, -1}, {-1, -1}, {math.MinInt, 5}, {0, math.MinInt}, {-1, math.MaxInt}, {math.MaxInt, -1},
			{maxCoord + 1, -1}, {-1, maxCoord + 1}, {-maxCoord - 1, 5}, {5, -maxCoord - 1}, {-maxCoord, maxCoord},
		} {
			refusedAll(t, numbers(s), x.gap, x.room, 2)
		}
		for justify := int(stretch); justify < 256; justify++ {
			for _, x := range []struct{ gap, room int }{{0, 5}, {1, 0}, {-1, 5}, {0, -1}, {maxCoord + 1, 5}, {0, maxCoord + 1}, {math.MaxInt, math.MaxInt}} {
				for _, back := range bothTurns {
					checkTold(t, s, how{x.gap, x.room, uint8(justify), back}, "", 2)
				}
			}
		}
	}
}

// P17.1: a room, a gap below 0 is ErrArg, one of 0 isn't.
func TestNought(t *testing.T) {
	for _, s := range []string{"", "3", "3 4", "-3 0 5"} {
		refusedAll(t, numbers(s), -1, 0, 2)
		refusedAll(t, numbers(s), 0, -1, 2)
		eachWay(0, 0, func(h how) {
			if e := check(t, numbers(s), h); e != api.OK {
				t.Errorf("%s by %v: error %d", s, h, e)
			}
		})
	}
}

// P17.1: what is left is just a length, or is none, whatever hangs on it; what
// comes on the way isn't asked.
func TestLeft(t *testing.T) {
	for _, x := range []struct {
		outer     string
		gap, room int
		fits      bool
	}{
		{"0", 0, maxCoord, true},
		{"-1", 0, maxCoord - 1, true},
		{"-1", 0, maxCoord, false},
		{"-M", 0, 0, true},
		{"-M", 0, 1, false},
		{"-M", 0, maxCoord, false},
		{"M", 0, 0, true},
		{"M 0", 0, 0, true},
		{"0 M", 0, 0, true},
		{"M", maxCoord, 0, true},
		{"M 0", 1, 0, false},
		{"M 0", 1, 1, true},
		{"M 1", 0, 0, false},
		{"M 1", 0, 1, true},
		{"0 0", maxCoord, 0, true},
		{"1 0", maxCoord, 0, false},
		{"0 0 0", maxCoord, 0, false},
		{"0 0 0", maxCoord, maxCoord - 1, false},
		{"M 0 0 -M", 0, 0, true},
		{"1 M 0 -M", 0, 0, true},
		{"1 M -M -1", 0, maxCoord, true},
		{"1 M -M -2", 0, maxCoord, false},
	} {
		outer := numbers(x.outer)
		left := leftBeside(outer, x.gap, x.room)
		if isLength(left) != x.fits {
			t.Fatalf("%v: %d is left", x, left)
		}
		if !x.fits {
			refusedAll(t, outer, x.gap, x.room, 10)
			continue
		}
		eachWay(x.gap, x.room, func(h how) { check(t, outer, h) })
	}
	checkAll(t, []told{
		{"0", how{0, maxCoord, atEnd, false}, "M"},
		{"0", how{0, maxCoord, atMiddle, false}, "549755813888"},
		{"0", how{0, maxCoord, evenly, false}, "549755813888"},
		{"-1", how{0, maxCoord - 1, atEnd, false}, "M"},
		{"-M", how{0, 0, atEnd, false}, "M"},
		{"M", how{0, 0, atEnd, false}, "-M"},
		{"M 0", how{0, 0, atEnd, false}, "-M 0"},
		{"M 0", how{0, 0, atStart, true}, "-M -M"},
		{"0 0", how{maxCoord, 0, atStart, false}, "0 M"},
		{"0 0", how{maxCoord, 0, atStart, true}, "0 -M"},
		{"0 0", how{maxCoord, 0, atEnd, false}, "-M 0"},
		{"0 0", how{maxCoord, 0, atMiddle, false}, "-549755813888 549755813888"},
		{"0 0 0", how{0, maxCoord, between, false}, "0 549755813888 M"},
		{"0 0 0", how{0, maxCoord, evenly, false}, "274877906944 549755813888 824633720832"},
	})
}

// P17.1: what is told is just a length, or is none, though all else is; what
// isn't told isn't asked.
func TestTold(t *testing.T) {
	for _, x := range []struct {
		outer string
		h     how
		want  string
		e     api.Errno
	}{
		// the last but one begins at the bound, and one beyond it
		{"M 0 -M", how{0, 0, atStart, false}, "0 M M", 0},
		{"M 1 0 -M", how{0, 0, atStart, false}, "", 10},
		{"M 1 -M", how{0, 0, atStart, false}, "", 10},
		{"M-1 1 -M", how{0, 0, atStart, false}, "0 M-1 M", 0},
		{"M -M", how{1, 0, atStart, false}, "", 10},
		{"M-1 -M", how{1, 0, atStart, false}, "0 M", 0},
		{"0 M -M", how{0, 1, atEnd, false}, "", 10},
		{"0 M -M", how{0, 0, atEnd, false}, "0 0 M", 0},
		{"0 M -M", how{0, 3, atMiddle, false}, "", 10},
		{"0 M -M", how{0, 1, atMiddle, false}, "0 0 M", 0},
		{"M -M", how{0, 1, between, false}, "", 10},
		{"M -M", how{0, 0, between, false}, "0 M", 0},
		{"M 0 -M", how{0, 1, between, false}, "", 10},
		{"0 M -M", how{0, 1, evenly, false}, "", 10},
		// below 0
		{"-M 0 M", how{0, 0, atStart, false}, "0 -M -M", 0},
		{"-M -1 M", how{0, 0, atStart, false}, "", 10},
		{"0 -M M", how{0, 1, atStart, false}, "0 0 -M", 0},
		{"M -M 1 -1", how{0, 0, atEnd, false}, "0 M 0 1", 0},
		{"1 -M M 1", how{0, 0, atEnd, false}, "-2 -1 -M-1 -1", 10},
		{"1 -M M", how{0, 0, atEnd, false}, "-1 0 -M", 0},
		{"2 -M M 1", how{0, 0, atEnd, false}, "", 10},
		// backwards: the end of each is as far from the room's as it began
		{"M 0 -M", how{0, 0, atStart, true}, "-M -M 0", 0},
		{"M 1 -M", how{0, 0, atStart, true}, "", 10},
		{"M 1 -M", how{0, 1, atStart, true}, "-M+1 -M 0", 0},
		{"-M 0 M", how{0, 0, atStart, true}, "M M 0", 0},
		{"-M -1 M", how{0, 0, atStart, true}, "", 10},
		{"-M 1 M", how{0, 1, atStart, true}, "", 10},
		{"-M 2 M", how{0, 1, atEnd, true}, "", 10},
		{"-M 1 M", how{0, 0, atStart, true}, "M M-1 -1", 0},
		// forwards it would be none, backwards it is one; and turned about
		{"M 1 -1 -M", how{0, 1, atStart, false}, "", 10},
		{"M 1 -1 -M", how{0, 1, atStart, true}, "-M+1 -M -M+1 1", 0},
		{"M 1 -1 -M", how{0, 0, atStart, true}, "", 10},
		{"M M -M -M", how{0, maxCoord, atStart, false}, "", 10},
		{"M M -M -M", how{0, maxCoord, atStart, true}, "0 -M 0 M", 0},
		{"-M", how{0, 0, atStart, false}, "0", 0},
		{"1 -M", how{0, 1, atStart, false}, "0 1", 0},
		{"1 -M", how{0, 2, atStart, false}, "", 10},
		{"1 -M", how{0, 1, atStart, true}, "0 M", 0},
		{"-1 -M+1", how{0, 0, atStart, true}, "1 M", 0},
		{"M -M 1 -M", how{0, 1, atStart, true}, "-M+1 1 0 M", 0},
	} {
		if x.e != 0 {
			x.want = ""
		}
		checkTold(t, x.outer, x.h, x.want, x.e)
	}
}

// P17.1: numbers about the bound, by a fixed seed, of which some are refused,
// and some aren't.
func TestGreatBySeed(t *testing.T) {
	r := rand.New(rand.NewSource(3))
	many := map[api.Errno]int{}
	for range 100000 {
		outer := bySeed(r, 1+r.Intn(6), maxCoord+maxCoord>>(3+r.Intn(9)), true)
		for i := range outer {
			if r.Intn(3) == 0 {
				outer[i] = maxCoord>>r.Intn(20) - maxCoord>>r.Intn(20)
			}
		}
		gap := r.Intn(maxCoord >> r.Intn(40))
		eachWay(gap, roomBySeed(r, outer, gap), func(h how) { many[check(t, outer, h)]++ })
	}
	if many[0] < 100000 || many[10] < 50000 {
		t.Errorf("only %v", many)
	}
}

// P17.1: numbers by a fixed seed, of whatever an int holds, and each number that
// a way to stand can be.
func TestWild(t *testing.T) {
	r := rand.New(rand.NewSource(4))
	some := func() int { return int(r.Uint64()) >> r.Intn(64) }
	many := map[api.Errno]int{}
	for range 300000 {
		outer := make([]int, r.Intn(4))
		for i := range outer {
			outer[i] = some()
		}
		h := how{max(some(), r.Intn(4)-1), max(some(), r.Intn(4)-1), uint8(r.Intn(6)), r.Intn(2) == 0}
		if r.Intn(4) == 0 {
			h.justify = uint8(r.Intn(256))
		}
		many[check(t, outer, h)]++
	}
	if many[0] < 20000 || many[2] < 20000 || many[10] < 20000 {
		t.Errorf("only %v", many)
	}
}

// P17.1: just MaxNodes boxes, and one more, whatever else is wrong.
func TestMaxNodes(t *testing.T) {
	for _, x := range []struct {
		many       int
		want, over api.Errno
	}{
		{maxNodes - 1, 0, 10}, {maxNodes, 0, 10}, {maxNodes + 1, 2, 2}, {maxNodes + 2, 2, 2}, {2048, 2, 2}, {2049, 2, 2}, {9 * maxNodes, 2, 2},
	} {
		outer := slices.Repeat([]int{10}, x.many)
		for _, room := range []int{0, 3000, 3500, 10000} {
			for _, gap := range []int{0, 1, 9} {
				eachWay(gap, room, func(h how) {
					if e := check(t, outer, h); e != x.want {
						t.Errorf("%d by %v: error %d, not %d", x.many, h, e, x.want)
					}
				})
			}
		}
		refusedAll(t, outer, maxCoord+1, 0, x.over)
		outer[x.many-1] = maxCoord + 1
		refusedAll(t, outer, 0, 5000, x.over)
		refusedAll(t, outer, -1, 5000, 2)
		outer[x.many-1] = 10
		refusedAll(t, outer, 0, -1, 2)
		checkTold(t, "1 2", how{0, 3, stretch, false}, "", 2)
	}
	// A piece of more boxes than may be is no more than it has itself.
	begins := mustMain(t, slices.Repeat([]int{1}, 3*maxNodes)[:maxNodes], how{0, 2*maxNodes - 1, between, false})
	for i, begin := range begins {
		if begin != 2*i {
			t.Fatalf("a piece: the box %d at %d", i, begin)
		}
	}
}

// P17.1: MaxNodes boxes of the greatest numbers, and of such by a fixed seed.
func TestManyBoxes(t *testing.T) {
	for _, size := range []int{maxCoord, -maxCoord} {
		outer := slices.Repeat([]int{size}, maxNodes)
		refusedAll(t, outer, 0, 0, 10)
		refusedAll(t, outer, 0, maxCoord, 10)
		refusedAll(t, outer, maxCoord, maxCoord, 10)
	}
	// The gaps bring back all sizes but one, of which the room has as much, or
	// a length more.
	outer := slices.Repeat([]int{-maxCoord}, maxNodes)
	for _, back := range bothTurns {
		begins := mustMain(t, outer, how{maxCoord, 0, atStart, back})
		want := map[bool]int{false: 0, true: maxCoord}[back]
		if slices.Min(begins) != want || slices.Max(begins) != want {
			t.Errorf("%v", short(begins))
		}
	}
	eachWay(maxCoord, 0, func(h how) { check(t, outer, h) })
	refusedAll(t, outer, maxCoord, 1, 10)
	r := rand.New(rand.NewSource(5))
	for i := range 300 {
		outer := bySeed(r, maxNodes-i%2, maxCoord>>(10+i%20), i%3 == 0)
		gap := r.Intn(1 + maxCoord>>(12+i%20))
		eachWay(gap, roomBySeed(r, outer, gap), func(h how) { check(t, outer, h) })
	}
}

// P0.1, P0.4: a nil row and an empty one are the same, whatever stands behind
// it.
func TestNothing(t *testing.T) {
	room := []int{math.MinInt, 5, math.MaxInt}
	for i, outer := range [][]int{nil, {}, room[:0], room[3:]} {
		for _, x := range []struct{ gap, room int }{{0, 0}, {0, 1}, {5, 9}, {maxCoord, 0}, {maxCoord, maxCoord}} {
			eachWay(x.gap, x.room, func(h how) {
				if begins, e := flex.Main(outer, h.gap, h.room, h.justify, h.back); len(begins) > 0 || e != api.OK {
					t.Errorf("%d by %v: %v, error %d", i, h, begins, e)
				}
			})
		}
		refusedAll(t, outer, -1, 0, 2)
		refusedAll(t, outer, 0, -1, 2)
		refusedAll(t, outer, 0, maxCoord+1, 10)
		refusedAll(t, outer, maxCoord+1, 0, 10)
		if begins, e := flex.Main(outer, 0, 0, stretch, false); begins != nil || e != api.ErrArg {
			t.Errorf("%d, stretched: %v, error %d", i, begins, e)
		}
	}
}

// P0.4: the row that is handed in stays, what stands ahead of it and behind it
// neither counts nor changes, and nothing of it is kept.
func TestRowStays(t *testing.T) {
	row := []int{math.MinInt, 10, 20, math.MaxInt}
	was := slices.Clone(row)
	eachWay(5, 65, func(h how) {
		want, _ := byHand([]int{10, 20}, h)
		begins := mustMain(t, row[1:3], h)
		if !slices.Equal(row, was) {
			t.Fatalf("by %v: the row is %v", h, row)
		}
		for i := range row {
			row[i] = 7
		}
		if !slices.Equal(begins, want) {
			t.Errorf("by %v: %v, not %v", h, begins, want)
		}
		copy(row, was)
	})
}

// P0.4: what is told is new memory, and so is the spare room behind it.
func TestNewMemory(t *testing.T) {
	outer := []int{10, 20, 30}
	eachWay(1, 91, func(h how) {
		first, second := mustMain(t, outer, h), mustMain(t, outer, h)
		want := slices.Clone(second)
		first = first[:cap(first)]
		for i := range first {
			first[i] = -7
		}
		if third := mustMain(t, outer, h); !slices.Equal(second, want) || !slices.Equal(third, want) || !slices.Equal(outer, []int{10, 20, 30}) {
			t.Errorf("by %v: %v and %v, not %v", h, second, third, want)
		}
	})
}

// P0.2, P0.3: beside an error nothing is told, and a call that is refused
// changes nothing that a later one tells.
func TestRefused(t *testing.T) {
	for _, s := range []string{"10 M+1", "M 1", "-1 -M", "M 1 -M", "L"} {
		for _, back := range bothTurns {
			if begins, e := flex.Main(numbers(s), 0, 0, atStart, back); begins != nil || e != api.ErrOver {
				t.Errorf("%s: %v, error %d", s, begins, e)
			}
			checkTold(t, "10 20", how{5, 65, evenly, false}, "10 35", 0)
		}
		if at, e := flex.Cross(-1, maxCoord, atEnd); at != 0 || e != api.ErrOver {
			t.Errorf("%d, error %d", at, e)
		}
		checkCrossTold(t, "10", "25", atEnd, "15", 0)
	}
}
