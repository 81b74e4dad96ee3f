package flexible_test

import (
	"math"
	"math/rand"
	"slices"
	"testing"

	"windowpane/api"
	"windowpane/flexible"
)

// P16.1: all rows of the chapter's examples.
func TestExamples(t *testing.T) {
	for _, x := range []struct {
		l    string
		h    how
		want string
		e    api.Errno
	}{
		{"10/1/1 10/3/1", how{5, 45}, "15 25", 0},
		{"10/0/1 10/1/1<12", how{0, 50}, "10 12", 0},
		{"30/0/1 10/0/1", how{0, 20}, "15 5", 0},
		{"30/0/1>25 10/0/1", how{0, 30}, "25 5", 0},
		{"10/1/1 10/1/1", how{0, -1}, "10 10", 0},
		{"10/0/0", how{0, 5}, "10", 0},
		{"-1/0/0", how{0, 5}, "", 2},
	} {
		checkTold(t, x.l, x.h, x.want, x.e)
	}
}

// P16.1: first sizes, by hand; of whatever an int holds none is refused.
func TestFirst(t *testing.T) {
	for _, x := range []struct {
		l    string
		want int
	}{
		{"10/0/0", 10},
		{"10/7/9@5", 10},
		{"0/1/1", 0},
		{"10/1/1>10", 10},
		{"10/1/1>11", 11},
		{"10/1/1>9", 10},
		{"10/1/1<10", 10},
		{"10/1/1<9", 9},
		{"10/1/1<11", 10},
		{"10/1/1>5<15", 10},
		{"3/1/1>5<15", 5},
		{"30/1/1>5<15", 15},
		{"10/1/1>7<7", 7},
		// a least above the most
		{"10/1/1>15<5", 15},
		{"3/1/1>15<5", 15},
		{"30/1/1>15<5", 15},
		{"30/1/1>15<0", 15},
		{"0/1/1<0", 0},
		// numbers that Sizes refuses
		{"-10/0/0", 0},
		{"-10/0/0>-20", -10},
		{"-10/-1/1001>-5", -5},
		{"10/0/0>-20<-5", -5},
		{"M+1/0/0<G", maxCoord + 1},
		{"G/0/0<G", math.MaxInt},
		{"G/0/0>L<L", math.MinInt},
		{"L/0/0>L<G@G", math.MinInt},
		{"L/0/0>G<L@L", math.MaxInt},
	} {
		if got := flexible.First(item(x.l)); got != x.want {
			t.Errorf("%s: %d, not %d", x.l, got, x.want)
		}
	}
	r := rand.New(rand.NewSource(2))
	for range 100000 {
		x := wild(r)
		if got, want := flexible.First(x), within(x.Base, x); got != want {
			t.Fatalf("%+v: %d, not %d", x, got, want)
		}
	}
}

// told are boxes, what they are settled by, and their sizes.
type told struct {
	l    string
	h    how
	want string
}

func checkAll(t *testing.T, rows []told) {
	t.Helper()
	for _, x := range rows {
		checkTold(t, x.l, x.h, x.want, 0)
	}
}

// P16.1: boxes that grow, by hand.
func TestGrow(t *testing.T) {
	checkAll(t, []told{
		// one round: by Grows, whatever the bases and the Shrinks are
		{"10/1/1", how{0, 50}, "50"},
		{"10/1/0 20/1/9", how{0, 50}, "20 30"},
		{"10/1/1 20/2/1", how{0, 60}, "20 40"},
		{"0/1/1 0/4/1", how{0, 10}, "2 8"},
		{"10/1000/1 10/1/1", how{0, 1021}, "1000 21"},
		{"10/1000/1 10/1000/1", how{0, 40}, "20 20"},
		// what is left over goes to those that lost most, of equal ones to the first
		{"10/1/1 10/1/1 10/1/1", how{0, 40}, "14 13 13"},
		{"10/1/1 10/1/1 10/1/1", how{0, 41}, "14 14 13"},
		{"10/2/1 10/1/1", how{0, 25}, "13 12"},
		{"10/1/1 10/2/1", how{0, 24}, "11 13"},
		{"10/1/1 10/1/1", how{0, 21}, "11 10"},
		// some don't grow
		{"10/0/1 10/1/1", how{0, 50}, "10 40"},
		{"10/1/1 10/0/1 10/1/1", how{0, 50}, "20 10 20"},
		{"10/0/1 10/0/0", how{0, 50}, "10 10"},
		{"10/0/1>15", how{0, 50}, "15"},
		{"10/0/1<5 10/1/1", how{0, 50}, "5 45"},
		// a base above the most is settled at once, one at it isn't, nor one below the least
		{"20/1/1<10 10/1/1", how{0, 50}, "10 40"},
		{"10/1/1<10 10/1/1", how{0, 50}, "10 40"},
		{"10/1/1>20 10/1/1", how{0, 50}, "25 25"},
		{"10/1/1>30 10/1/1", how{0, 50}, "30 20"},
		{"10/1/1>40 10/1/1", how{0, 50}, "40 10"},
		// the most
		{"10/1/1<12 10/1/1", how{0, 50}, "12 38"},
		{"10/1/1<25 10/1/1", how{0, 50}, "25 25"},
		{"10/1/1<24 10/1/1", how{0, 50}, "24 26"},
		{"10/1/1<12 10/1/1<20", how{0, 50}, "12 20"},
		{"10/1/1<12 10/1/1<38", how{0, 50}, "12 38"},
		{"10/1/1<12 10/1/1<37", how{0, 50}, "12 37"},
		{"10/1/1<0 10/1/1", how{0, 50}, "0 50"},
		{"0/1/1<0 10/1/1", how{0, 50}, "0 50"},
		// the least
		{"0/1/1>30 0/1/1", how{0, 50}, "30 20"},
		{"0/1/1>25 0/1/1", how{0, 50}, "25 25"},
		{"0/1/1>26 0/1/1", how{0, 50}, "26 24"},
		{"0/1/1>30 0/1/1>19", how{0, 50}, "30 20"},
		{"0/1/1>49 0/1/1 0/1/1", how{0, 50}, "49 1 0"},
		// both: what they change is 0 in all, above it, below it
		{"0/1/1>30 0/1/1<20", how{0, 50}, "30 20"},
		{"0/1/1<20 0/1/1>30 0/1/1", how{0, 75}, "20 30 25"},
		{"0/1/1>30 0/1/1<22 0/1/1", how{0, 75}, "30 22 23"},
		{"0/1/1>27 0/1/1<20 0/1/1", how{0, 75}, "28 20 27"},
		{"0/1/1>31 0/1/1<20", how{0, 50}, "31 19"},
		{"0/1/1>30 0/1/1<19", how{0, 50}, "31 19"},
		// a least above the most
		{"10/1/1>20<5", how{0, 50}, "20"},
		{"10/1/1>20<5 10/1/1", how{0, 50}, "20 30"},
		{"30/1/1>20<5 10/1/1", how{0, 50}, "20 30"},
		{"0/1/1>40<5 0/1/1", how{0, 50}, "40 10"},
		// many rounds: each settles one for its most
		{"0/8/1<720 0/4/1<420 0/2/1<222 0/1/1<117 0/1/1", how{0, 1600}, "720 420 222 117 121"},
		{"0/1/1 0/1/1<117 0/2/1<222 0/4/1<420 0/8/1<720", how{0, 1600}, "121 117 222 420 720"},
		// for its least: 200 each; 300 is left for three, 90 for two
		{"0/1/1>500 0/1/1>210 0/1/1 0/1/1", how{0, 800}, "500 210 45 45"},
		{"0/1/1>300 0/1/1>170 0/1/1>165 0/1/1", how{0, 800}, "300 170 165 165"},
	})
}

// P16.1: boxes that shrink, by hand.
func TestShrink(t *testing.T) {
	checkAll(t, []told{
		// one round: by Shrink times base, whatever the Grows are
		{"10/1/1", how{0, 4}, "4"},
		{"10/1/1", how{0, 0}, "0"},
		{"30/5/1 10/0/1", how{0, 20}, "15 5"},
		{"10/0/3 30/0/1", how{0, 20}, "0 20"},
		{"20/0/1 20/0/3", how{0, 20}, "15 5"},
		{"20/0/1000 20/0/1000", how{0, 20}, "10 10"},
		{"100/0/1 100/0/1000", how{0, 150}, "100 50"},
		// what is left over goes to those that lost most, of equal ones to the first
		{"10/1/1 10/1/1 10/1/1", how{0, 29}, "9 10 10"},
		{"10/1/1 10/1/1 10/1/1", how{0, 28}, "9 9 10"},
		{"10/1/2 10/1/1", how{0, 15}, "7 8"},
		{"10/1/1 10/1/2", how{0, 16}, "9 7"},
		// some don't shrink
		{"10/1/0", how{0, 5}, "10"},
		{"10/1/0 10/1/1", how{0, 15}, "10 5"},
		{"10/1/0 10/1/1", how{0, 5}, "10 0"},
		{"10/1/0>15 10/1/1", how{0, 20}, "15 5"},
		{"20/1/0<15 10/1/1", how{0, 20}, "15 5"},
		{"10/1/0 10/1/0", how{0, 15}, "10 10"},
		// a base below the least is settled at once, one at it isn't, nor one above the most
		{"5/1/1>10 30/1/1", how{0, 25}, "10 15"},
		{"10/1/1>10 30/1/1", how{0, 25}, "10 15"},
		{"30/1/1<20 10/1/1", how{0, 25}, "19 6"},
		{"30/1/1<20 10/1/1", how{0, 29}, "20 9"},
		{"30/1/1<20 10/1/1", how{0, 30}, "20 10"},
		// the least
		{"30/0/1>25 10/0/1", how{0, 30}, "25 5"},
		{"30/0/1>15 10/0/1", how{0, 20}, "15 5"},
		{"30/0/1>16 10/0/1", how{0, 20}, "16 4"},
		{"30/0/1>25 10/0/1", how{0, 25}, "25 0"},
		{"30/0/1>25 10/0/1", how{0, 20}, "25 0"},
		{"30/0/1>25 10/0/1>6", how{0, 30}, "25 6"},
		{"10/1/1>10", how{0, 5}, "10"},
		// the most
		{"20/1/1<10 10/1/1", how{0, 20}, "10 10"},
		{"20/1/1<10 10/1/1", how{0, 19}, "10 9"},
		{"20/1/1<10 10/1/1", how{0, 15}, "10 5"},
		{"20/1/1<0 10/1/1", how{0, 5}, "0 5"},
		// both: what they change is 0 in all, above it, below it
		{"40/1/1>30 40/1/1<10", how{0, 40}, "30 10"},
		{"40/1/1>30 40/1/1<11", how{0, 40}, "30 10"},
		{"40/1/1>30 40/1/1<19 40/1/1", how{0, 60}, "30 15 15"},
		{"40/1/1>21 40/1/1<10 40/1/1", how{0, 60}, "25 10 25"},
		// bases of 0
		{"0/0/1", how{0, 0}, "0"},
		{"0/1/1 0/1/1", how{9, 5}, "0 0"},
		{"0/1/1@10 0/1/1@10", how{0, 5}, "0 0"},
		{"0/1/1 30/1/1", how{0, 10}, "0 10"},
		{"0/1/1>5 30/1/1", how{0, 10}, "5 5"},
		{"0/0/0 0/0/1 30/0/0", how{0, 10}, "0 0 30"},
		// a least above the most
		{"30/1/1>20<5", how{0, 10}, "20"},
		{"30/1/1>20<5", how{0, 20}, "20"},
		{"30/1/1>20<5 10/1/1", how{0, 25}, "20 5"},
		{"10/1/1>20<5 10/1/1", how{0, 25}, "20 5"},
		// many rounds: each settles one for its least
		{"1000/0/8>280 1000/0/4>580 1000/0/2>778 1000/0/1>883 1000/0/1", how{0, 3400}, "280 580 778 883 879"},
		{"1000/0/1 1000/0/1>883 1000/0/2>778 1000/0/4>580 1000/0/8>280", how{0, 3400}, "879 883 778 580 280"},
		// for its most: 300 each; 900 is left for three, 790 for two
		{"500/0/1<100 500/0/1<290 500/0/1 500/0/1", how{0, 1200}, "100 290 405 405"},
	})
}

// P16.1: rooms and what is around, by hand.
func TestRoom(t *testing.T) {
	checkAll(t, []told{
		// no boxes
		{"", how{0, -1}, ""},
		{"", how{0, 0}, ""},
		{"", how{7, 50}, ""},
		{"", how{maxCoord, maxCoord}, ""},
		{"", how{maxCoord, -1}, ""},
		// no room: first sizes
		{"10/1/1", how{0, -1}, "10"},
		{"10/1/1>12 10/1/1<8 10/0/0", how{5, -1}, "12 8 10"},
		{"10/1/1>12<8@3 0/0/0@-7", how{0, -1}, "12 0"},
		// a room of 0, and of 1
		{"10/1/1 10/1/1>3", how{0, 0}, "0 3"},
		{"0/1/1", how{0, 0}, "0"},
		{"0/1/1", how{0, 1}, "1"},
		{"0/1/1 0/1/1", how{0, 1}, "1 0"},
		{"0/1/1>1", how{0, 0}, "1"},
		{"10/1/1@-10", how{0, 0}, "10"},
		{"10/1/1@-13", how{0, 0}, "13"},
		// just full, one more, one less
		{"10/1/1 20/1/1", how{0, 30}, "10 20"},
		{"10/1/1 20/1/1", how{0, 31}, "11 20"},
		{"10/1/1 20/1/1", how{0, 29}, "10 19"},
		{"10/1/1 20/1/1", how{5, 35}, "10 20"},
		{"10/1/1 20/1/1", how{5, 36}, "11 20"},
		{"10/1/1 20/1/1", how{5, 34}, "10 19"},
		{"10/1/1@4 20/1/1@-1", how{0, 33}, "10 20"},
		{"10/1/1@4 20/1/1@-1", how{0, 34}, "11 20"},
		{"10/1/1@4 20/1/1@-1", how{0, 32}, "10 19"},
		// just full by first sizes, not by bases
		{"10/1/1>20 20/1/1", how{0, 40}, "20 20"},
		{"10/1/1>20 20/1/1", how{0, 41}, "20 21"},
		{"10/1/1>20 20/1/1", how{0, 39}, "20 19"},
		{"30/1/1<20 20/1/1", how{0, 40}, "20 20"},
		{"30/1/1<20 20/1/1", how{0, 41}, "20 21"},
		{"30/1/1<20 20/1/1", how{0, 39}, "20 19"},
		// Outers above and below 0
		{"10/1/1@5 10/1/1@-3", how{2, 32}, "14 14"},
		{"10/1/1@5 10/0/1", how{0, 30}, "15 10"},
		{"10/1/1@-5 10/0/1", how{0, 30}, "25 10"},
		{"10/0/1@-5 10/1/1", how{0, 30}, "10 25"},
		{"10/1/1@-100 10/1/1", how{0, 20}, "60 60"},
		{"10/1/1@8 10/1/1", how{0, 20}, "6 6"},
		{"10/1/0@8 10/1/1", how{0, 20}, "10 2"},
		// gaps: one less than boxes
		{"10/1/1", how{50, 20}, "20"},
		{"10/1/1 10/1/1 10/1/1", how{5, 46}, "12 12 12"},
		{"10/1/1 10/1/1 10/1/1", how{5, 34}, "8 8 8"},
		{"10/0/0 10/1/1 10/0/0", how{5, 46}, "10 16 10"},
		// more Outers and gaps than there is room
		{"10/1/1@50 10/1/1@50", how{0, 20}, "0 0"},
		{"10/1/1 10/1/1>3", how{50, 20}, "0 3"},
		{"10/1/1@50 10/1/0", how{0, 20}, "0 10"},
		{"10/1/1@30 10/1/1", how{30, 0}, "0 0"},
	})
}

// P16.1: all short rows of boxes, and others by a fixed seed: such as grow, and
// such as shrink, settled in no round, in one, in many, with changes of all
// kinds.
func TestAll(t *testing.T) {
	var rounds [20]int
	grow, nothing, less, more, justOut := 0, 0, 0, 0, 0
	goOver(func(l []flexible.Item, h how) {
		c := check(t, l, h)
		if c.e != api.OK {
			t.Fatalf("%+v by %v: error %d", l, h, c.e)
		}
		rounds[c.rounds]++
		if c.grows {
			grow++
		}
		nothing, less, more, justOut = nothing+c.nothing, less+c.less, more+c.more, justOut+c.justOut
	})
	if grow < 10000 || nothing < 1000 || less < 10000 || more < 10000 || justOut < 1000 {
		t.Errorf("only %d grow, in %d rounds nothing is left, in %d, %d, %d changes are less, more, nothing", grow, nothing, less, more, justOut)
	}
	if rounds[0] < 5000 || rounds[1] < 10000 || rounds[2] < 10000 || rounds[3] < 5000 || rounds[4] < 1000 || rounds[5] < 100 {
		t.Errorf("rounds: only %v", rounds)
	}
}

// fields are the numbers of a box, and what an ErrArg is for them.
var fields = []struct {
	name string
	at   func(x *flexible.Item) *int
	arg  func(n int) bool
}{
	{"Base", func(x *flexible.Item) *int { return &x.Base }, func(n int) bool { return n < 0 }},
	{"Least", func(x *flexible.Item) *int { return &x.Least }, func(n int) bool { return n < 0 }},
	{"Most", func(x *flexible.Item) *int { return &x.Most }, func(n int) bool { return n < 0 }},
	{"Grow", func(x *flexible.Item) *int { return &x.Grow }, func(n int) bool { return n < 0 || n > maxGrow }},
	{"Shrink", func(x *flexible.Item) *int { return &x.Shrink }, func(n int) bool { return n < 0 || n > maxGrow }},
	{"Outer", func(x *flexible.Item) *int { return &x.Outer }, func(n int) bool { return false }},
}

// edges are numbers about which an answer may change.
var edges = append(numbers("-M -M+1 -1001 -2 -1 0 1 5 999 1000 1001 M-1 M"), noLengths...)

// hows are what boxes are settled by, of which none is wrong by itself.
var hows = []how{{0, -1}, {0, 0}, {3, 20}, {3, 200}, {0, maxCoord}, {maxCoord, 0}}

// refusedAll asks that nothing but an error is told.
func refusedAll(t *testing.T, l []flexible.Item, h how, want api.Errno) {
	t.Helper()
	if sizes, e := flexible.Sizes(l, h.gap, h.room); len(sizes) > 0 || e != want {
		t.Errorf("%+v by %v: %v, error %d, not %d", short(l), h, short(sizes), e, want)
	}
	check(t, l, h)
}

// P16.1: each number of each box at each edge: ErrArg, ErrOver, or neither.
func TestEachField(t *testing.T) {
	for _, field := range fields {
		for _, n := range edges {
			for at := range 3 {
				l := items("10/1/1 20/2/3>5<30@4 30/0/1")
				*field.at(&l[at]) = n
				for _, h := range hows {
					switch {
					case field.arg(n):
						refusedAll(t, l, h, 2)
					case !isLength(n):
						refusedAll(t, l, h, 10)
					default:
						check(t, l, h)
					}
				}
			}
		}
	}
}

// P16.1: each gap and each room at each edge, with boxes and without.
func TestEachHow(t *testing.T) {
	for _, l := range [][]flexible.Item{nil, items("10/1/1"), items("10/0/0"), items("10/1/1 20/2/3>5<30@4 30/0/1")} {
		for _, gap := range edges {
			for _, room := range edges {
				h := how{gap, room}
				switch {
				case gap < 0 || room < -1:
					refusedAll(t, l, h, 2)
				case !isLength(gap) || !isLength(room):
					refusedAll(t, l, h, 10)
				default:
					check(t, l, h)
				}
			}
		}
	}
}

// P16.1: what is ErrArg goes ahead of what is ErrOver, wherever both stand.
func TestArgAheadOfOver(t *testing.T) {
	for _, wrong := range fields {
		for _, n := range edges {
			if !wrong.arg(n) {
				continue
			}
			for _, over := range fields {
				for at := range 3 {
					for other := range 3 {
						l := items("10/1/1 20/2/3>5<30@4 30/0/1")
						*over.at(&l[other]) = maxCoord + 1
						*wrong.at(&l[at]) = n
						refusedAll(t, l, how{3, 20}, 2)
						refusedAll(t, l, how{maxCoord + 1, math.MaxInt}, 2)
					}
				}
			}
		}
	}
	for _, s := range []string{"M+1/1/1", "1/1/1>G", "1/1/1<M+1", "1/1/1@L", "1/1/1 1/1/1@-M-1", ""} {
		for _, h := range []how{{-1, 5}, {math.MinInt, 5}, {0, -2}, {0, math.MinInt}, {-1, math.MaxInt}, {maxCoord + 1, -2}, {-1, -1}} {
			refusedAll(t, items(s), h, 2)
		}
	}
}

// P16.1: a number that is no length is ErrOver, even if nothing that is told
// hangs on it.
func TestOverForNothing(t *testing.T) {
	for _, s := range []string{"1/0/0<M+1", "1/0/0<G", "1/0/0@M+1", "1/0/0@-M-1", "1/0/0@L", "M+1/0/0", "G/0/0<0", "1/0/0>M+1", "1/1/1 1/0/0@G 1/1/1"} {
		for _, h := range hows {
			refusedAll(t, items(s), h, 10)
		}
	}
	for _, s := range []string{"", "1/0/0", "1/1/1 1/1/1"} {
		for _, h := range []how{{maxCoord + 1, -1}, {maxCoord + 1, 0}, {math.MaxInt, 5}, {0, maxCoord + 1}, {0, math.MaxInt}} {
			refusedAll(t, items(s), h, 10)
		}
	}
}

// P16.1: what is left in a round is just a length, or is none; what would be
// left without a round isn't asked, nor is what comes on the way.
func TestLeft(t *testing.T) {
	for _, x := range []struct {
		l    string
		room int
		want string
		e    api.Errno
	}{
		// more than 0
		{"0/1/0<M", maxCoord, "M", 0},
		{"0/1/0<M@-1", maxCoord, "", 10},
		{"0/1/0<M@-1", maxCoord - 1, "M", 0},
		{"0/1/0<7@-M", 0, "7", 0},
		{"0/1/0<7@-M", 1, "", 10},
		{"0/1/0>5@-M", 1, "", 10},
		{"1/1/0<7@-M", 1, "7", 0},
		{"1/1/0<7@-M", 2, "", 10},
		{"M/1/0<M@-M", maxCoord, "M", 0},
		{"M/1/0<M@-M 0/1/0@-1", maxCoord, "", 10},
		{"M/1/0<M@-M 0/1/0", maxCoord, "M 1000", 0},
		{"M/0/0<M@-M 0/1/0<M", maxCoord, "M M", 0},
		{"M/0/0<M@-M 0/1/0<M@-1", maxCoord, "", 10},
		{"0/0/0@-M 0/1/0", 0, "0 1000", 0},
		{"0/0/0@-M 0/1/0", 1, "", 10},
		// less than 0
		{"M/0/1<M", 0, "0", 0},
		{"M/0/1<M@1", 0, "", 10},
		{"M/0/1<M@1", 1, "0", 0},
		{"M/0/1<7@1", 0, "", 10},
		{"M/0/1<7@M", maxCoord, "0", 0},
		{"M/0/1<7@M", maxCoord - 1, "", 10},
		{"M/0/1<M M/0/1<M", maxCoord, "549755813888 549755813888", 0},
		{"M/0/1<M M/0/1<M", maxCoord - 1, "", 10},
		{"M/0/0<M 0/0/1", 0, "M 0", 0},
		{"M/0/0<M 1/0/1", 0, "", 10},
		{"M/0/0<M 1/0/1", 1, "M 0", 0},
		// no round
		{"0/0/1@-M 0/0/1@-M", maxCoord, "0 0", 0},
		{"9/1/0<5@-M 0/0/1@-M", maxCoord, "5 0", 0},
		{"M/1/0<M@M M/1/0<M@M", 0, "M M", 0},
		{"3/1/1>5@M M/1/0<M@M", 0, "5 M", 0},
		{"M/1/1<M@M M/1/1<M@M", -1, "M M", 0},
		{"M/1/1<M@-M M/1/1<M@-M", -1, "M M", 0},
		// on the way: what is farther is brought back
		{"M/1/1<M@-M M/1/1<M@-M M/1/1<M@-M", 0, "M M M", 0},
		{"M/0/1<M@M M/0/1<M@-M", maxCoord, "549755813888 549755813888", 0},
		{"0/0/0@M 0/0/0@M 0/0/0@-M 0/1/0@-M", 9, "0 0 0 9", 0},
		{"0/0/0@-M 0/0/0@-M 0/0/0@M 0/1/0@M", 9, "0 0 0 9", 0},
		{"0/0/0@-M 5/1/1", maxCoord, "", 10},
	} {
		checkTold(t, x.l, how{0, x.room}, x.want, x.e)
	}
	// Gaps are of what is left, too.
	checkTold(t, "0/1/1 0/1/1", how{maxCoord, 0}, "0 0", 0)
	checkTold(t, "0/1/1@1 0/1/1", how{maxCoord, 0}, "", 10)
	checkTold(t, "0/1/1 0/1/1 0/1/1", how{maxCoord, maxCoord}, "0 0 0", 0)
	checkTold(t, "0/1/1 0/1/1 0/1/1", how{maxCoord, maxCoord - 1}, "", 10)
	checkTold(t, "0/1/1 0/0/0@-M 0/0/0@-M", how{maxCoord, maxCoord}, "1000 0 0", 0)
	checkTold(t, "0/1/1 0/0/0 0/1/0@9", how{maxCoord, 0}, "", 10)
}

// P16.1: a goal that is no length is brought to a size, which is one.
func TestFarGoals(t *testing.T) {
	checkAll(t, []told{
		{"M/1/0<M@-M", how{0, maxCoord}, "M"},
		{"M/1/0<M@-M", how{0, 1}, "M"},
		{"9/1/0<M@-9", how{0, maxCoord}, "M"},
		{"M-1/1/0<M@-M", how{0, maxCoord - 1}, "M"},
		{"M/1/0>M<0@-M", how{0, maxCoord}, "M"},
		{"M/1/0<M@-M 0/3/0<M", how{0, maxCoord}, "M M"},
		{"M/1/0<M@-M 0/3/0<7", how{0, maxCoord}, "M 7"},
	})
}

// P16.1: numbers about the bound, by a fixed seed, of which some are refused,
// and some aren't.
func TestGreatBySeed(t *testing.T) {
	r := rand.New(rand.NewSource(3))
	many := map[api.Errno]int{}
	rounds := 0
	for range 30000 {
		l := bySeed(r, 1+r.Intn(6), maxCoord+maxCoord/16)
		for i := range l {
			if r.Intn(2) == 0 {
				l[i].Outer = maxCoord>>r.Intn(20) - maxCoord>>r.Intn(20)
			}
		}
		gap := r.Intn(maxCoord >> r.Intn(40))
		c := check(t, l, how{gap, roomBySeed(r, l, gap)})
		many[c.e]++
		if c.rounds > 1 {
			rounds++
		}
	}
	if many[0] < 10000 || many[10] < 3000 || rounds < 3000 {
		t.Errorf("only %v, %d in some rounds", many, rounds)
	}
}

// wild tells a box of whatever an int holds.
func wild(r *rand.Rand) flexible.Item {
	some := func() int { return int(r.Uint64()) >> r.Intn(64) }
	return flexible.Item{Base: some(), Least: some(), Most: some(), Grow: some(), Shrink: some(), Outer: some()}
}

// P16.1: numbers by a fixed seed, of whatever an int holds.
func TestWild(t *testing.T) {
	r := rand.New(rand.NewSource(4))
	some := func() int { return int(r.Uint64()) >> r.Intn(64) }
	many := map[api.Errno]int{}
	for range 200000 {
		l := make([]flexible.Item, r.Intn(3))
		for i := range l {
			l[i] = wild(r)
			for _, field := range fields {
				if n := field.at(&l[i]); field.arg(*n) && r.Intn(8) > 0 {
					*n = r.Intn(maxGrow + 1)
				}
			}
		}
		many[check(t, l, how{max(some(), r.Intn(3)-1), max(some(), r.Intn(4)-2)}).e]++
	}
	if many[0] < 10000 || many[2] < 10000 || many[10] < 10000 {
		t.Errorf("only %v", many)
	}
}

// P16.1: just MaxFrags boxes, and one more, whatever else is wrong.
func TestMaxFrags(t *testing.T) {
	for _, x := range []struct {
		many       int
		want, over api.Errno
	}{
		{maxFrags - 1, 0, 10}, {maxFrags, 0, 10}, {maxFrags + 1, 2, 2}, {maxFrags + 2, 2, 2}, {3 * maxFrags, 2, 2},
	} {
		for _, h := range []how{{0, -1}, {0, 5000}, {1, 40000}, {1, 20000}, {0, 0}} {
			l := slices.Repeat(items("10/1/1"), x.many)
			if c := check(t, l, h); c.e != x.want {
				t.Errorf("%d by %v: error %d, not %d", x.many, h, c.e, x.want)
			}
			l[x.many-1].Outer = maxCoord + 1
			refusedAll(t, l, h, x.over)
			refusedAll(t, l, how{-1, h.room}, 2)
			l[x.many-1].Grow = -1
			refusedAll(t, l, h, 2)
		}
	}
	// A piece of more boxes than may be is no more than it has itself.
	l := slices.Repeat(items("1/1/1"), 3*maxFrags)
	if sizes := mustSizes(t, l[:maxFrags], how{0, 2 * maxFrags}); !slices.Equal(sizes, slices.Repeat([]int{2}, maxFrags)) {
		t.Errorf("a piece: %v", short(sizes))
	}
}

// P16.1: MaxFrags boxes of the greatest numbers, and of such by a fixed seed.
func TestManyBoxes(t *testing.T) {
	l := slices.Repeat(items("M/1000/1000<M@-M"), maxFrags)
	check(t, l, how{0, 0})
	check(t, l, how{0, maxCoord})
	l = slices.Repeat(items("M/1000/1000<M"), maxFrags)
	refusedAll(t, l, how{maxCoord, 0}, 10)
	l = slices.Repeat(items("536870912/1000/1000<M"), maxFrags)
	if sizes := mustSizes(t, l, how{0, 0}); together(sizes) != 0 {
		t.Errorf("%v", short(sizes))
	}
	check(t, l, how{0, maxCoord - 1})
	check(t, l, how{0, maxCoord})
	r := rand.New(rand.NewSource(5))
	for i := range 6 {
		l := bySeed(r, maxFrags-i%2, maxCoord>>(11+i))
		check(t, l, how{i, roomBySeed(r, l, i)})
	}
}

// P0.1, P0.4: a nil row and an empty one are the same, whatever stands behind
// it.
func TestNothing(t *testing.T) {
	room := items("-1/0/0 G/1/1 5/1/1")
	for i, l := range [][]flexible.Item{nil, {}, room[:0], room[3:]} {
		for _, h := range hows {
			if sizes, e := flexible.Sizes(l, h.gap, h.room); len(sizes) > 0 || e != api.OK {
				t.Errorf("%d by %v: %v, error %d", i, h, sizes, e)
			}
		}
		refusedAll(t, l, how{-1, 0}, 2)
		refusedAll(t, l, how{0, maxCoord + 1}, 10)
	}
}

// P0.4: the row that is handed in stays, what stands ahead of it and behind it
// neither counts nor changes, and nothing of it is kept.
func TestRowStays(t *testing.T) {
	row := items("-1/0/0 10/1/1>3 10/3/1<500 L/1/1")
	was := slices.Clone(row)
	for _, x := range []struct {
		h    how
		want string
	}{{how{5, 45}, "15 25"}, {how{5, 15}, "5 5"}, {how{5, -1}, "10 10"}} {
		sizes := mustSizes(t, row[1:3], x.h)
		if !slices.Equal(row, was) {
			t.Fatalf("by %v: the row is %+v", x.h, row)
		}
		for i := range row {
			row[i] = item("7/1/1")
		}
		if !slices.Equal(sizes, numbers(x.want)) {
			t.Errorf("by %v: %v, not %s", x.h, sizes, x.want)
		}
		copy(row, was)
	}
}

// P0.4: what is told is new memory, and so is the spare room behind it.
func TestNewMemory(t *testing.T) {
	l := items("10/1/1 10/3/1")
	for _, h := range []how{{5, 45}, {5, 15}, {5, -1}} {
		first, second := mustSizes(t, l, h), mustSizes(t, l, h)
		want := slices.Clone(second)
		first = first[:cap(first)]
		for i := range first {
			first[i] = -7
		}
		if third := mustSizes(t, l, h); !slices.Equal(second, want) || !slices.Equal(third, want) {
			t.Errorf("by %v: %v and %v, not %v", h, second, third, want)
		}
	}
}

// P0.2, P0.3: beside an error nothing is told, and a call that is refused
// changes nothing that a later one tells.
func TestRefused(t *testing.T) {
	for _, s := range []string{"10/1/1 -1/1/1", "10/1/1 M+1/1/1", "0/1/0 0/1/0@-M 0/1/0@-M", "M/1/1<M M/1/1<M M/1/1<M"} {
		if sizes, e := flexible.Sizes(items(s), 0, 20); sizes != nil || e == api.OK {
			t.Errorf("%s: %v, error %d", s, sizes, e)
		}
		checkTold(t, "10/1/1 10/3/1", how{5, 45}, "15 25", 0)
	}
}
