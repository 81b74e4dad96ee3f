package block_test

import (
	"math"
	"math/rand"
	"slices"
	"testing"

	"windowpane/api"
	"windowpane/block"
	"windowpane/margin"
)

// P14.1: all rows of the chapter's examples.
func TestExamples(t *testing.T) {
	for _, x := range []struct {
		l    string
		b    box
		want string
	}{
		{"10 5 20, 15 5 7", closed, "10 35; 47; 0 0; 0 0; no"},
		{"10 5 20, 15 5 7", openBoth, "0 25; 30; 10 0; 7 0; no"},
		{"10 5 -4, 3 5 0", closed, "10 14; 19; 0 0; 0 0; no"},
		{"t 8 9, 4 5 0", openAbove, "0 0; 5; 9 0; 0 0; no"},
		{"t 8 9, 4 5 0", closed, "8 9; 14; 0 0; 0 0; no"},
		{"t 8 9", openBoth, "0; 0; 9 0; 0 0; yes"},
		{"t 8 9", openAbove, "0; 0; 9 0; 0 0; no"},
		{"", closed, "; 0; 0 0; 0 0; no"},
		{"-3 1 0", closed, "-3; 0; 0 0; 0 0; no"},
	} {
		checkTold(t, x.l, x.b, x.want, 0)
	}
}

// P14.1: what is told of each of the four boxes, by hand: of ordinary kids, and
// at the edges that the chapter names.
func TestStack(t *testing.T) {
	for _, x := range []struct{ l, closed, above, below, both string }{
		// no kids, and one
		{"",
			"; 0; 0 0; 0 0; no", "; 0; 0 0; 0 0; no",
			"; 0; 0 0; 0 0; no", "; 0; 0 0; 0 0; yes"},
		{"10 5 20",
			"10; 35; 0 0; 0 0; no", "0; 25; 10 0; 0 0; no",
			"10; 15; 0 0; 20 0; no", "0; 5; 10 0; 20 0; no"},
		{"t 8 9",
			"8; 9; 0 0; 0 0; no", "0; 0; 9 0; 0 0; no",
			"8; 0; 0 0; 9 0; no", "0; 0; 9 0; 0 0; yes"},
		// margins above 0, below 0, and of both sides
		{"10 5 20, 15 5 7",
			"10 35; 47; 0 0; 0 0; no", "0 25; 37; 10 0; 0 0; no",
			"10 35; 40; 0 0; 7 0; no", "0 25; 30; 10 0; 7 0; no"},
		{"-10 5 -2, -3 5 -4",
			"-10 -8; 0; 0 0; 0 0; no", "0 2; 3; 0 -10; 0 0; no",
			"-10 -8; 0; 0 0; 0 -4; no", "0 2; 7; 0 -10; 0 -4; no"},
		{"8/-3 5 6/-9, 2/-1 4 0/-2",
			"5 7; 9; 0 0; 0 0; no", "0 2; 4; 8 -3; 0 0; no",
			"5 7; 11; 0 0; 0 -2; no", "0 2; 6; 8 -3; 0 -2; no"},
		// through ones ahead of the first one with a height, between two, behind the last one
		{"t 8 9, t 3 12, 4 5 0",
			"8 9 12; 17; 0 0; 0 0; no", "0 0 0; 5; 12 0; 0 0; no",
			"8 9 12; 17; 0 0; 0 0; no", "0 0 0; 5; 12 0; 0 0; no"},
		{"1 5 6, t 8 -2, 4 5 3",
			"1 14 12; 20; 0 0; 0 0; no", "0 13 11; 19; 1 0; 0 0; no",
			"1 14 12; 17; 0 0; 3 0; no", "0 13 11; 16; 1 0; 3 0; no"},
		{"1 5 6, t 8 -2, t 3 11",
			"1 14 12; 15; 0 0; 0 0; no", "0 13 11; 14; 1 0; 0 0; no",
			"1 14 12; 6; 0 0; 11 -2; no", "0 13 11; 5; 1 0; 11 -2; no"},
		{"5 1 4, t 6/-7 2/-1, 3/-9 1 0",
			"5 5 3; 4; 0 0; 0 0; no", "0 0 -2; 0; 5 0; 0 0; no",
			"5 5 3; 4; 0 0; 0 0; no", "0 0 -2; 0; 5 0; 0 0; no"},
		// through ones alone
		{"t 8 9, t -4 2, t 0 20",
			"8 5 5; 16; 0 0; 0 0; no", "0 0 0; 0; 20 -4; 0 0; no",
			"8 5 5; 0; 0 0; 20 -4; no", "0 0 0; 0; 20 -4; 0 0; yes"},
		{"t -8 -9, t 0 0",
			"-8 -9; 0; 0 0; 0 0; no", "0 0; 0; 0 -9; 0 0; no",
			"-8 -9; 0; 0 0; 0 -9; no", "0 0; 0; 0 -9; 0 0; yes"},
		{"t 0 0",
			"0; 0; 0 0; 0 0; no", "0; 0; 0 0; 0 0; no",
			"0; 0; 0 0; 0 0; no", "0; 0; 0 0; 0 0; yes"},
		// of height 0, but not through: its margins don't meet
		{"8 0 9",
			"8; 17; 0 0; 0 0; no", "0; 9; 8 0; 0 0; no",
			"8; 8; 0 0; 9 0; no", "0; 0; 8 0; 9 0; no"},
		{"t 8 9, 8 0 9, t 8 9",
			"8 9 18; 18; 0 0; 0 0; no", "0 0 9; 9; 9 0; 0 0; no",
			"8 9 18; 9; 0 0; 9 0; no", "0 0 9; 0; 9 0; 9 0; no"},
		// margins of 0 0
		{"0 5 0, 0 7 0, t 0 0",
			"0 5 12; 12; 0 0; 0 0; no", "0 5 12; 12; 0 0; 0 0; no",
			"0 5 12; 12; 0 0; 0 0; no", "0 5 12; 12; 0 0; 0 0; no"},
		// a height of 1, of just 0, and such as would be below it
		{"0 5 -4",
			"0; 1; 0 0; 0 0; no", "0; 1; 0 0; 0 0; no",
			"0; 5; 0 0; 0 -4; no", "0; 5; 0 0; 0 -4; no"},
		{"0 5 -5",
			"0; 0; 0 0; 0 0; no", "0; 0; 0 0; 0 0; no",
			"0; 5; 0 0; 0 -5; no", "0; 5; 0 0; 0 -5; no"},
		{"0 5 -6",
			"0; 0; 0 0; 0 0; no", "0; 0; 0 0; 0 0; no",
			"0; 5; 0 0; 0 -6; no", "0; 5; 0 0; 0 -6; no"},
		// places below 0, and heights behind them
		{"-3 1 0",
			"-3; 0; 0 0; 0 0; no", "0; 1; 0 -3; 0 0; no",
			"-3; 0; 0 0; 0 0; no", "0; 1; 0 -3; 0 0; no"},
		{"t -3 0, 0 1 0",
			"-3 -3; 0; 0 0; 0 0; no", "0 0; 1; 0 -3; 0 0; no",
			"-3 -3; 0; 0 0; 0 0; no", "0 0; 1; 0 -3; 0 0; no"},
		{"-9 2 0, 0 8 0",
			"-9 -7; 1; 0 0; 0 0; no", "0 2; 10; 0 -9; 0 0; no",
			"-9 -7; 1; 0 0; 0 0; no", "0 2; 10; 0 -9; 0 0; no"},
		{"-9 2 20",
			"-9; 13; 0 0; 0 0; no", "0; 22; 0 -9; 0 0; no",
			"-9; 0; 0 0; 20 0; no", "0; 2; 0 -9; 20 0; no"},
		// one that stands higher than the one ahead of it ends, or begins
		{"0 10 -8, 0 1 0",
			"0 2; 3; 0 0; 0 0; no", "0 2; 3; 0 0; 0 0; no",
			"0 2; 3; 0 0; 0 0; no", "0 2; 3; 0 0; 0 0; no"},
		{"0 10 -15, -20 3 0",
			"0 -10; 0; 0 0; 0 0; no", "0 -10; 0; 0 0; 0 0; no",
			"0 -10; 0; 0 0; 0 0; no", "0 -10; 0; 0 0; 0 0; no"},
	} {
		checkTold(t, x.l, closed, x.closed, 0)
		checkTold(t, x.l, openAbove, x.above, 0)
		checkTold(t, x.l, openBelow, x.below, 0)
		checkTold(t, x.l, openBoth, x.both, 0)
	}
}

// P14.1: kids of all kinds in every order, and others by a fixed seed, in each
// box.
func TestStackAll(t *testing.T) {
	goOver(func(l []block.Kid) {
		for _, b := range boxes {
			if e := check(t, l, b); e != api.OK {
				t.Fatalf("%v, %v: error %d", l, b, e)
			}
		}
	})
}

// P14.1: kids by a fixed seed of numbers about the bound, of which some are
// refused, and some aren't.
func TestGreatBySeed(t *testing.T) {
	r := rand.New(rand.NewSource(2))
	many := map[api.Errno]int{}
	for i := range 40000 {
		l := bySeed(r, r.Intn(6), maxCoord, i%11)
		for _, b := range boxes {
			many[check(t, l, b)]++
		}
	}
	if many[0] < 10000 || many[10] < 10000 {
		t.Errorf("only %v", many)
	}
}

// P14.1: numbers by a fixed seed, of whatever an int holds.
func TestWild(t *testing.T) {
	r := rand.New(rand.NewSource(3))
	some := func() int { return int(r.Uint64()) >> r.Intn(64) }
	for range 100000 {
		l := make([]block.Kid, r.Intn(4))
		for i := range l {
			l[i] = block.Kid{Top: margin.Margin{Up: some(), Down: some()}, Bottom: margin.Margin{Up: some(), Down: some()}, Height: some(), Through: r.Intn(3) == 0}
		}
		check(t, l, boxes[r.Intn(4)])
	}
}

// P14.1: what may not be is ErrArg, wherever it stands, in whatever box, and
// beside or behind whatever else is refused.
func TestErrArg(t *testing.T) {
	for _, wrong := range []string{
		"0 -1 0", "5 -1 5", "0 -M 0", "0 -M-1 0", "0 L 0",
		"T 0 1 0", "T 8 5 9", "T 0 M 0", "T 0 M+1 0", "T 0 G 0", "T 0 -1 0", "T 0 L 0",
		"-1/0 5 0", "-M/0 5 0", "-M-1/0 5 0", "L/0 5 0", "-1/-1 5 0",
		"0/1 5 0", "0/M 5 0", "0/M+1 5 0", "0/G 5 0", "1/1 5 0",
		"0 5 -1/0", "0 5 -M/0", "0 5 -M-1/0", "0 5 L/0", "0 5 -1/-1",
		"0 5 0/1", "0 5 0/M", "0 5 0/M+1", "0 5 0/G", "0 5 1/1",
		"t -1/0 0", "t 0/1 0", "t 0 -1/0", "t 0 0/1", "t L/G L/G",
		// a number that is no length in the same one, too
		"M+1 -1 0", "-M-1 -1 0", "0 -1 G", "0 -1 L", "0 M+1 -1/0", "0/1 G 0", "M+1/1 5 0", "-1/-M-1 5 0", "0 5 G/1", "0 5 -1/L", "T M+1 1 0", "T 0 1 -M-1", "t 0/1 M+1",
	} {
		for _, b := range boxes {
			for _, around := range []string{"", "10 5 20", "t 8 9", "M+1 5 0", "-M-1 5 0", "0 M+1 0", "0 G 0", "0 5 M+1", "0 5 -M-1", "t M+1 0", "t 0 L", "0 M 0, 0 M 0, 0 M 0"} {
				checkTold(t, wrong+","+around, b, nothing, 2)
				checkTold(t, around+","+wrong, b, nothing, 2)
				checkTold(t, around+",1 2 3,"+wrong+", t 1 2,"+around, b, nothing, 2)
			}
		}
	}
}

// P14.1: a number that is handed in and is no length is ErrOver, wherever it
// stands, in whatever box, even if nothing that is told hangs on it.
func TestErrOverHandedIn(t *testing.T) {
	for _, over := range []string{
		"M+1 5 0", "G 5 0", "-M-1 5 0", "L 5 0", "M+1/-M 5 0", "M/-M-1 5 0", "M+1/-M-1 5 0", "G/L 5 0",
		"0 M+1 0", "0 G 0",
		"0 5 M+1", "0 5 G", "0 5 -M-1", "0 5 L", "0 5 M+1/-M", "0 5 M/-M-1", "0 5 M+1/-M-1", "0 5 G/L",
		"t M+1 0", "t G 0", "t -M-1 0", "t L 0", "t 0 M+1", "t 0 G", "t 0 -M-1", "t 0 L", "t M+1/-M-1 0", "t 0 M+1/-M-1",
	} {
		for _, b := range boxes {
			for _, around := range []string{"", "10 5 20", "t 8 9", "0 M 0", "-M 0 0"} {
				checkTold(t, over+","+around, b, nothing, 10)
				checkTold(t, around+","+over, b, nothing, 10)
				checkTold(t, around+",1 2 3,"+over+", t 1 2,"+around, b, nothing, 10)
			}
		}
	}
}

// P14.1: places and heights that are told and are just a length, and such as
// are none; what comes on the way alone may be none.
func TestTold(t *testing.T) {
	for _, x := range []struct {
		l    string
		b    box
		want string
		e    api.Errno
	}{
		// heights
		{"0 M 0", closed, "0; 1099511627776; 0 0; 0 0; no", 0},
		{"1 M-1 0", closed, "1; 1099511627776; 0 0; 0 0; no", 0},
		{"1 M 0", closed, nothing, 10},
		{"1 M 0", openBelow, nothing, 10},
		{"1 M 0", openAbove, "0; 1099511627776; 1 0; 0 0; no", 0},
		{"0 M 1", closed, nothing, 10},
		{"0 M 1", openAbove, nothing, 10},
		{"0 M 1", openBelow, "0; 1099511627776; 0 0; 1 0; no", 0},
		{"1 M 1", openBoth, "0; 1099511627776; 1 0; 1 0; no", 0},
		{"0 M 0, 0 1 0", openBoth, nothing, 10},
		{"0 M-1 0, 0 1 0", openBoth, "0 1099511627775; 1099511627776; 0 0; 0 0; no", 0},
		{"1 M -1", closed, "1; 1099511627776; 0 0; 0 0; no", 0},
		{"1 M -1", openBelow, nothing, 10},
		{"M M -M", closed, "1099511627776; 1099511627776; 0 0; 0 0; no", 0},
		{"t M 0", closed, "1099511627776; 1099511627776; 0 0; 0 0; no", 0},
		{"0 1 0, t 0 M", openBelow, "0 1; 1; 0 0; 1099511627776 0; no", 0},
		{"0 1 0, t 0 M", closed, nothing, 10},
		// heights far below 0
		{"-M 0 -1", closed, "-1099511627776; 0; 0 0; 0 0; no", 0},
		{"-M 0 -M", closed, "-1099511627776; 0; 0 0; 0 0; no", 0},
		// places
		{"M 0 0", closed, "1099511627776; 1099511627776; 0 0; 0 0; no", 0},
		{"0 1 0, M-1 0 0", closed, "0 1099511627776; 1099511627776; 0 0; 0 0; no", 0},
		{"0 1 0, M 0 0", closed, nothing, 10},
		{"0 1 0, M 0 0, -M 0 0", closed, nothing, 10},
		{"0 1 0, t M-1 0, -M 0 0", closed, "0 1099511627776 0; 0; 0 0; 0 0; no", 0},
		{"0 1 0, t M 0, -M 0 0", closed, nothing, 10},
		{"0 M 0, t 0 0", closed, "0 1099511627776; 1099511627776; 0 0; 0 0; no", 0},
		{"0 M 1, t 0 0", openBelow, nothing, 10},
		{"0 M 1, t -1 0", openBelow, "0 1099511627776; 1099511627776; 0 0; 1 -1; no", 0},
		{"-M 0 0", closed, "-1099511627776; 0; 0 0; 0 0; no", 0},
		{"-M 1 -1, 0 0 0", closed, "-1099511627776 -1099511627776; 0; 0 0; 0 0; no", 0},
		{"-M 1 -2, 0 0 0", closed, nothing, 10},
		{"-M 1 -2, t 0 0", closed, nothing, 10},
		{"-M 1 -2, t 0 0", openAbove, "0 -1; 0; 0 -1099511627776; 0 0; no", 0},
		{"-M 0 -1, 0 M 0", openBelow, nothing, 10},
		// the way alone
		{"1 M 0, -1 0 0", closed, "1 1099511627776; 1099511627776; 0 0; 0 0; no", 0},
		{"M M 0, -M M 0, -M 0 0", closed, "1099511627776 1099511627776 1099511627776; 1099511627776; 0 0; 0 0; no", 0},
		{"0 M 0, 0 M 0, -M 0 0, -M 0 0", closed, "0 1099511627776 1099511627776 0; 0; 0 0; 0 0; no", 0},
		{"-M 0 -M, M 0 0", closed, "-1099511627776 -1099511627776; 0; 0 0; 0 0; no", 0},
		{"-M 0 0, 0 M M", closed, "-1099511627776 -1099511627776; 1099511627776; 0 0; 0 0; no", 0},
		{"t M M, t -M 0, 0 1 0", closed, "1099511627776 0 0; 1; 0 0; 0 0; no", 0},
		// Tops and Bottoms
		{"M/-M M M/-M", openBoth, "0; 1099511627776; 1099511627776 -1099511627776; 1099511627776 -1099511627776; no", 0},
		{"t M 0, t -M 0", openBoth, "0 0; 0; 1099511627776 -1099511627776; 0 0; yes", 0},
		{"t M 0, t -M 0", openBelow, "1099511627776 0; 0; 0 0; 1099511627776 -1099511627776; no", 0},
		{"t M 0, 0 M M, t M M", openBoth, nothing, 10},
	} {
		checkTold(t, x.l, x.b, x.want, x.e)
	}
}

// fields are what a kid has, as what sets it.
var fields = []func(kid *block.Kid, n int){
	func(kid *block.Kid, n int) { kid.Top.Up = n },
	func(kid *block.Kid, n int) { kid.Top.Down = n },
	func(kid *block.Kid, n int) { kid.Height = n },
	func(kid *block.Kid, n int) { kid.Bottom.Up = n },
	func(kid *block.Kid, n int) { kid.Bottom.Down = n },
}

// edges are numbers about which an answer may change.
var edges = append([]int{-maxCoord, 1 - maxCoord, -5, -1, 0, 1, 5, maxCoord - 1, maxCoord}, noLengths...)

// P14.1: each number of each kid at each edge, and each two of them, in each
// box, of kids through and not.
func TestEachNumber(t *testing.T) {
	for _, s := range []string{"0 0 0", "t 0 0", "10 5 20, t 8 9, 7/-3 6 2/-4", "t 8 9, t -3 4"} {
		for i := range kids(s) {
			for first := range fields {
				for second := range first + 1 {
					for _, a := range edges {
						for _, z := range edges {
							l := kids(s)
							fields[first](&l[i], a)
							fields[second](&l[len(l)-1], z)
							for _, b := range boxes {
								check(t, l, b)
							}
						}
					}
				}
			}
		}
	}
}

// P14.1: just MaxFrags kids, and one more, whatever else is wrong.
func TestMaxFrags(t *testing.T) {
	for _, one := range []string{"1 1 0", "t 3 -2", "0 0 0", "-1 0 -1"} {
		for _, b := range boxes {
			for _, x := range []struct {
				many           int
				want, tooGreat api.Errno
			}{
				{maxFrags - 1, 0, 10}, {maxFrags, 0, 10}, {maxFrags + 1, 2, 2}, {maxFrags + 2, 2, 2}, {3 * maxFrags, 2, 2},
			} {
				l := slices.Repeat(kids(one), x.many)
				if e := check(t, l, b); e != x.want {
					t.Errorf("%d of %s, %v: error %d, not %d", x.many, one, b, e, x.want)
				}
				l[x.many-1].Top.Up = maxCoord + 1
				if e := check(t, l, b); e != x.tooGreat {
					t.Errorf("%d of %s, one of them too great, %v: error %d, not %d", x.many, one, b, e, x.tooGreat)
				}
				l[0].Top.Down = 1
				if e := check(t, l, b); e != 2 {
					t.Errorf("%d of %s, one of them none, %v: error %d", x.many, one, b, e)
				}
			}
		}
	}
	s, e := block.Stack(slices.Repeat(kids("1 1 0"), maxFrags), false, false)
	if e != api.OK || len(s.At) != maxFrags || s.At[0] != 1 || s.At[maxFrags-1] != 2*maxFrags-1 || s.Height != 2*maxFrags {
		t.Errorf("%d tall, error %d", s.Height, e)
	}
}

// P14.1, P0.1: as many kids as there may be, of the greatest numbers: what they
// come to is no length, and no int is too small for it.
func TestManyGreat(t *testing.T) {
	for _, one := range []string{"0 M 0", "M M M", "M/-M M M/-M", "-M 0 -M", "M 0 M", "t M M", "t -M -M", "t M/-M M/-M"} {
		for _, b := range boxes {
			check(t, slices.Repeat(kids(one), maxFrags), b)
		}
	}
}

// P0.1, P0.4: a nil row and an empty one are the same, whatever stands behind
// it.
func TestNoKids(t *testing.T) {
	room := kids("10 5 20, 0 -1 0")
	for i, l := range [][]block.Kid{nil, {}, room[:0], room[2:]} {
		for _, b := range boxes {
			s, e := block.Stack(l, b.above, b.below)
			if want := (block.Stacked{Through: b == openBoth}); e != api.OK || !same(s, want) {
				t.Errorf("%d, %v: %s, error %d", i, b, told(s), e)
			}
		}
	}
}

// P0.4: the row that is handed in stays, what stands ahead of it and behind it
// neither counts nor changes, and nothing of it is kept.
func TestRowStays(t *testing.T) {
	for _, b := range boxes {
		row := kids("0 -1 0, t 8 9, 10 5 20, 15 5 7, t 3 -4, L G 0")
		was := slices.Clone(row)
		got, e := block.Stack(row[1:5], b.above, b.below)
		want, _ := byHand(was[1:5], b)
		if e != api.OK || !same(got, want) || !slices.Equal(row, was) {
			t.Errorf("%v: %s, error %d; the row is %v", b, told(got), e, row)
		}
		for i := range row {
			row[i] = block.Kid{Height: 1}
		}
		if !same(got, want) {
			t.Errorf("%v: behind a change of the row: %s", b, told(got))
		}
	}
}

// P0.4: what is answered is new memory, with the room behind it.
func TestNewMemory(t *testing.T) {
	l := kids("10 5 20, t 8 9, 15 5 7")
	for _, b := range boxes {
		first, _ := block.Stack(l, b.above, b.below)
		second, _ := block.Stack(l, b.above, b.below)
		want, _ := byHand(l, b)
		for i := range first.At[:cap(first.At)] {
			first.At[:cap(first.At)][i] = math.MinInt
		}
		third, e := block.Stack(l, b.above, b.below)
		if !same(second, want) || !same(third, want) || e != api.OK {
			t.Errorf("%v: %s, %s", b, told(second), told(third))
		}
	}
}
