package width_test

import (
	"math"
	"math/rand"
	"testing"

	"windowpane/api"
	"windowpane/width"
)

// examples are all rows of the chapter's examples.
var examples = []struct{ asks, tells string }{
	{"100 10 0 1000 5 7 -", "5 78 7"},
	{"100 10 0 1000 5 7 50", "5 50 35"},
	{"100 10 0 1000 f5 7 50", "33 50 7"},
	{"100 10 0 1000 f5 f7 51", "19 51 20"},
	{"100 10 0 1000 f5 f7 200", "0 200 -110"},
	{"100 10 0 30 5 f7 -", "5 30 55"},
	{"100 10 90 1000 5 7 -", "5 90 -5"},
}

// P12.2: all rows of the chapter's examples.
func TestExamples(t *testing.T) {
	for _, x := range examples {
		checkTold(t, asks(x.asks), tells(x.tells))
	}
}

// ordinary is what is asked for, and what is told of it, by hand: ordinary
// things, and the edges that the chapter names.
var ordinary = []struct{ asks, tells string }{
	// a width, something left: by which margins are free
	{"100 10 0 1000 5 7 60", "5 60 25"},
	{"100 10 0 1000 f5 7 60", "23 60 7"},
	{"100 10 0 1000 5 f7 60", "5 60 25"},
	{"100 10 0 1000 f5 f7 60", "15 60 15"},
	// a width, nothing left
	{"100 10 0 1000 5 7 78", "5 78 7"},
	{"100 10 0 1000 f5 7 83", "0 83 7"},
	{"100 10 0 1000 5 f7 85", "5 85 0"},
	{"100 10 0 1000 f5 f7 90", "0 90 0"},
	// a width, less than nothing left, just so, and far
	{"100 10 0 1000 5 7 79", "5 79 6"},
	{"100 10 0 1000 f5 7 84", "0 84 6"},
	{"100 10 0 1000 5 f7 86", "5 86 -1"},
	{"100 10 0 1000 f5 f7 91", "0 91 -1"},
	{"100 10 0 1000 5 7 500", "5 500 -415"},
	{"100 10 0 1000 f5 7 500", "0 500 -410"},
	{"100 10 0 1000 5 f7 500", "5 500 -415"},
	{"100 10 0 1000 f5 f7 500", "0 500 -410"},
	// for two free margins: 1, 2, 3 and 0 left
	{"100 10 0 1000 f5 f7 89", "0 89 1"},
	{"100 10 0 1000 f5 f7 88", "1 88 1"},
	{"100 10 0 1000 f5 f7 87", "1 87 2"},
	{"100 0 0 1000 f5 f7 100", "0 100 0"},
	{"100 0 0 1000 f5 f7 0", "50 0 50"},
	{"101 0 0 1000 f5 f7 0", "50 0 51"},
	// no width: what is left
	{"100 10 0 1000 f5 7 -", "0 83 7"},
	{"100 10 0 1000 5 f7 -", "5 85 0"},
	{"100 10 0 1000 f5 f7 -", "0 90 0"},
	// no width, and nothing, or less, is left for one
	{"22 10 0 1000 5 7 -", "5 0 7"},
	{"21 10 0 1000 5 7 -", "5 0 6"},
	{"21 10 0 1000 f5 7 -", "0 4 7"},
	{"5 10 0 1000 5 7 -", "5 0 -10"},
	{"5 10 0 1000 f5 7 -", "0 0 -5"},
	{"5 10 0 1000 5 f7 -", "5 0 -10"},
	{"5 10 0 1000 f5 f7 -", "0 0 -5"},
	// nothing around
	{"0 0 0 1000 0 0 -", "0 0 0"},
	{"0 0 0 1000 f0 f0 -", "0 0 0"},
	{"0 10 0 1000 5 7 -", "5 0 -15"},
	{"0 10 0 1000 f5 f7 -", "0 0 -10"},
	{"0 0 0 1000 5 7 50", "5 50 -55"},
	{"0 0 0 1000 f5 7 50", "0 50 -50"},
	// edges as wide as what is around, and wider
	{"100 100 0 1000 0 0 -", "0 0 0"},
	{"100 100 0 1000 f5 f7 -", "0 0 0"},
	{"100 100 0 1000 5 7 -", "5 0 -5"},
	{"100 101 0 1000 f5 f7 -", "0 0 -1"},
	{"100 300 0 1000 f5 7 20", "0 20 -220"},
	// the least, the most, of a width and of none
	{"100 10 60 1000 5 7 50", "5 60 25"},
	{"100 10 50 1000 5 7 50", "5 50 35"},
	{"100 10 0 40 5 7 50", "5 40 45"},
	{"100 10 0 50 5 7 50", "5 50 35"},
	{"100 10 0 40 5 7 -", "5 40 45"},
	{"100 10 0 40 f5 7 -", "43 40 7"},
	{"100 10 0 40 f5 f7 -", "25 40 25"},
	{"100 10 0 41 f5 f7 -", "24 41 25"},
	{"100 10 78 78 5 7 -", "5 78 7"},
	{"100 10 79 1000 5 7 -", "5 79 6"},
	{"100 10 90 1000 f5 f7 -", "0 90 0"},
	{"100 10 91 1000 f5 f7 -", "0 91 -1"},
	// the least above the most
	{"100 10 60 40 5 7 -", "5 60 25"},
	{"100 10 60 40 5 7 50", "5 60 25"},
	{"100 10 60 40 5 7 70", "5 60 25"},
	{"100 10 60 40 f5 f7 10", "15 60 15"},
	{"100 10 95 0 f5 7 -", "0 95 -5"},
	// a most of 0
	{"100 10 0 0 5 7 -", "5 0 85"},
	{"100 10 0 0 5 7 50", "5 0 85"},
	{"100 10 0 0 f5 7 -", "83 0 7"},
	{"100 10 0 0 f5 f7 50", "45 0 45"},
	// margins below 0, that are free and that aren't
	{"100 10 0 1000 -5 -7 -", "-5 102 -7"},
	{"100 10 0 1000 f-5 -7 -", "0 97 -7"},
	{"100 10 0 1000 -5 f-7 -", "-5 95 0"},
	{"100 10 0 1000 f-5 f-7 -", "0 90 0"},
	{"100 10 0 1000 -5 -7 50", "-5 50 45"},
	{"100 10 0 1000 f-5 -7 50", "47 50 -7"},
	{"100 10 0 1000 -5 f-7 50", "-5 50 45"},
	{"100 10 0 1000 f-5 f-7 50", "20 50 20"},
	{"100 10 0 1000 -5 -7 103", "-5 103 -8"},
	{"100 10 0 1000 f-5 -7 98", "0 98 -8"},
	{"100 10 0 1000 f-5 -7 97", "0 97 -7"},
	{"0 0 0 1000 -5 -7 -", "-5 12 -7"},
	{"10 0 0 1000 -500 500 -", "-500 10 500"},
	{"10 0 0 1000 500 -500 -", "500 10 -500"},
	// a width of 0
	{"100 10 0 1000 5 7 0", "5 0 85"},
	{"100 10 0 1000 f5 7 0", "83 0 7"},
	{"100 10 3 1000 5 f7 0", "5 3 82"},
	// none is asked for, and something stands there
	{"100 10 0 1000 5 7 ?50", "5 78 7"},
	{"100 10 0 1000 f5 f7 ?-50", "0 90 0"},
	{"100 10 0 30 f5 7 ?-50", "53 30 7"},
	{"100 10 0 1000 5 7 ?min", "5 78 7"},
	{"100 10 0 1000 5 7 ?max", "5 78 7"},
	{"100 10 0 1000 5 7 ?M+1", "5 78 7"},
	{"100 10 0 1000 5 7 ?-M-1", "5 78 7"},
}

// P12.2: ordinary things, and the edges that the chapter names.
func TestOrdinary(t *testing.T) {
	for _, x := range ordinary {
		checkTold(t, asks(x.asks), tells(x.tells))
	}
}

// P12.2: all small numbers, and many by a fixed seed.
func TestAllSmall(t *testing.T) {
	goOver(func(x toSolve) {
		if e := check(t, x).e; e != api.OK {
			t.Fatalf("%+v: error %d", x, e)
		}
	})
}

// handed are the numbers that Solve is handed in; those of which notBelow says
// so must not be below 0.
var handed = []struct {
	name     string
	notBelow bool
	at       func(x *toSolve) *int
}{
	{"of", true, func(x *toSolve) *int { return &x.of }},
	{"Least", true, func(x *toSolve) *int { return &x.Least }},
	{"Most", true, func(x *toSolve) *int { return &x.Most }},
	{"Edges", true, func(x *toSolve) *int { return &x.Edges }},
	{"Width", true, func(x *toSolve) *int { return &x.Width }},
	{"Left", false, func(x *toSolve) *int { return &x.Left }},
	{"Right", false, func(x *toSolve) *int { return &x.Right }},
}

// likely goes over what may be asked for in which each number may be at its
// bound, with or without a width, by which margins are free.
func likely(do func(x toSolve)) {
	for _, s := range []string{"100 10 0 1000 5 7 50", "100 10 0 1000 5 7 ?50", "0 0 0 0 0 0 0", "0 0 0 0 0 0 ?0", "9 9 9 9 -9 -9 9", "M M M M M M M"} {
		freeMargins(asks(s), do)
	}
}

// P12.2: each number that is handed in, just below 0, and far below.
func TestBelow(t *testing.T) {
	likely(func(x toSolve) {
		for _, h := range handed {
			x := x
			for _, n := range []int{-1, -2, -100, -maxCoord, -maxCoord - 1, math.MinInt + 1, math.MinInt} {
				*h.at(&x) = n
				got := check(t, x)
				if is := got.e == api.ErrArg; is != (h.notBelow && (h.name != "Width" || x.Is)) {
					t.Errorf("%s of %+v: %v", h.name, x, got)
				}
			}
		}
	})
}

// P12.2: each number that is handed in at the greatest and the least length,
// and such as are no lengths, of a margin that is free, too, but of a Width only
// where one is asked for.
func TestBounds(t *testing.T) {
	likely(func(x toSolve) {
		for _, h := range handed {
			x := x
			for _, n := range []int{maxCoord, maxCoord - 1, -maxCoord, 1 - maxCoord} {
				*h.at(&x) = n
				check(t, x)
			}
			for _, n := range noLengths {
				*h.at(&x) = n
				want := solved{e: 10}
				if n < 0 && h.notBelow {
					want.e = 2
				}
				if h.name == "Width" && !x.Is {
					want = x.byHand()
				}
				checkTold(t, x, want)
			}
		}
	})
}

// P12.2: what may be handed in is taken, at the greatest and the least length.
func TestJustLengths(t *testing.T) {
	for _, x := range []struct{ asks, tells string }{
		{"M 0 0 M 0 0 -", "0 M 0"},
		{"M 0 0 M f0 f0 -", "0 M 0"},
		{"M 0 0 0 f0 f0 -", "549755813888 0 549755813888"},
		{"0 M 0 M 0 0 -", "0 0 -M"},
		{"0 M 0 M f0 f0 -", "0 0 -M"},
		{"M M 0 M 0 0 -", "0 0 0"},
		{"0 0 M M 0 0 -", "0 M -M"},
		{"0 0 M 0 f0 0 -", "0 M -M"},
		{"0 0 0 M 0 0 M", "0 M -M"},
		{"0 0 0 M M 0 -", "M 0 -M"},
		{"0 0 0 M 0 M -", "0 0 0"},
		{"0 0 0 M fM fM -", "0 0 0"},
		{"0 0 0 M f-M f-M -", "0 0 0"},
		{"0 0 0 M -M 0 -", "-M M 0"},
		{"0 0 0 M 0 -M -", "0 M -M"},
		{"0 0 0 M f-M -M -", "0 M -M"},
		{"0 0 0 M -M f-M -", "-M M 0"},
		{"0 0 0 M M -M -", "M 0 -M"},
		{"0 0 0 M -M M -", "-M 0 M"},
		{"M M M M 0 0 M", "0 M -M"},
	} {
		checkTold(t, asks(x.asks), tells(x.tells))
	}
}

// P12.2: margins that are told, and are just a length, and such as are none;
// what comes on the way may be none.
func TestToldBounds(t *testing.T) {
	for _, x := range []struct{ asks, tells string }{
		// a left one that is free
		{"M 0 0 0 f0 0 -", "M 0 0"},
		{"M 0 0 0 f0 -1 -", ""},
		{"M-1 0 0 0 f0 -1 -", "M 0 -1"},
		{"M 1 0 0 f0 -1 -", "M 0 -1"},
		{"M 0 1 0 f0 -1 -", "M 1 -1"},
		{"M 0 0 M f0 -1 1", "M 1 -1"},
		{"M 0 0 M f0 -1 0", ""},
		{"M 0 0 0 f0 -M -", ""},
		{"0 0 0 0 f0 -M -", "M 0 -M"},
		{"1 0 0 0 f0 -M -", ""},
		// both
		{"M 0 0 0 fM fM 0", "549755813888 0 549755813888"},
		{"M-1 0 0 0 f-M f-M -", "549755813887 0 549755813888"},
		// a right one that is free
		{"M 0 0 0 0 f0 -", "0 0 M"},
		{"M 0 0 0 -1 f0 -", ""},
		{"M-1 0 0 0 -1 f0 -", "-1 0 M"},
		{"M 1 0 0 -1 f0 -", "-1 0 M"},
		{"M 0 0 0 -M f0 -", ""},
		{"M 0 0 M -M f0 -", "-M M M"},
		{"M 0 0 M-1 -M f0 -", ""},
		{"0 0 0 0 -M f0 -", "-M 0 M"},
		{"1 0 0 0 -M f0 -", ""},
		// none
		{"M 0 0 0 0 0 -", "0 0 M"},
		{"M 0 0 0 -1 0 -", ""},
		{"M 0 0 0 -1 -M 0", ""},
		{"M-1 0 0 0 -1 -M 0", "-1 0 M"},
		{"M 0 0 0 M M -", "M 0 0"},
		{"M 0 0 M -M -M -", "-M M M"},
		{"M 0 0 M-1 -M -M -", ""},
		{"0 M 0 M -M -M -", "-M M -M"},
		{"0 M 0 M-1 -M -M -", "-M M-1 -M+1"},
		// a right one far below 0
		{"0 M 0 M 0 0 -", "0 0 -M"},
		{"0 M 0 M 1 0 -", ""},
		{"0 M 0 M 1 M -", ""},
		{"1 M 0 M 1 0 -", "1 0 -M"},
		{"0 M 1 M 0 0 -", ""},
		{"0 M 1 M -1 0 -", "-1 1 -M"},
		{"0 M 0 M f1 f1 1", ""},
		{"0 M 0 M f1 f1 0", "0 0 -M"},
		{"0 M 0 M f1 M 1", ""},
		{"0 M 0 M 1 f1 0", ""},
		{"0 M M M -M M 0", "-M M -M"},
		{"0 M M M M M M", ""},
		{"0 M M M 1 f0 0", ""},
		{"M M M M 1 f0 0", ""},
		{"M M M M 0 f0 0", "0 M -M"},
		// the width, of much that is left, is brought down to the most
		{"M 0 0 M -M -M -", "-M M M"},
		{"M 0 0 M 0 -M -", "0 M 0"},
		{"M 0 0 M -1 -M -", "-1 M 1"},
		{"M 0 0 M -M 0 -", "-M M M"},
		{"M 0 0 M -M f0 -", "-M M M"},
		{"M 0 0 M f0 -M -", "M M -M"},
		{"M 0 0 M-1 f0 -M -", ""},
		// much too little is left for a width: it is 0
		{"0 M 0 M M 0 -", ""},
		{"M M 0 M M M -", "M 0 -M"},
		{"M-1 M 0 M M M -", ""},
	} {
		want := solved{e: 10}
		if x.tells != "" {
			want = tells(x.tells)
		}
		checkTold(t, asks(x.asks), want)
	}
}

// P12.2: the error alone that 'Errors' names first: of each two numbers one
// below 0, the other one no length, whichever stands first.
func TestFirstError(t *testing.T) {
	likely(func(x toSolve) {
		for i, below := range handed {
			for j, far := range handed {
				if i == j {
					continue
				}
				for _, n := range noLengths {
					y := x
					*below.at(&y) = -1
					*far.at(&y) = n
					check(t, y)
					if below.notBelow && (below.name != "Width" || y.Is) {
						checkTold(t, y, solved{e: 2})
					}
				}
			}
		}
	})
	for _, x := range []struct {
		asks string
		e    api.Errno
	}{
		// a number below 0, and a margin that would be told and be none
		{"M 0 -1 0 -1 0 -", 2},
		{"M 0 0 -1 -1 0 -", 2},
		{"0 M 0 M 1 0 -1", 2},
		{"0 M 0 M 1 0 ?-1", 10},
		{"-1 M 0 M 1 0 -", 2},
		{"min max max max max max max", 2},
		{"max max max max max max min", 2},
		{"max max max max max max ?min", 10},
		{"max max max max fmax fmax max", 10},
		{"max max max max min min max", 10},
		{"min min min min min min min", 2},
		{"0 0 0 0 min min 0", 10},
		{"0 0 0 0 fmin fmax ?min", 10},
	} {
		checkTold(t, asks(x.asks), solved{e: x.e})
	}
}

// P12.2: all of the numbers around the bound, and many by a fixed seed: nothing
// on the way passes an int.
func TestGreatNumbers(t *testing.T) {
	some := []int{0, 1, maxCoord - 1, maxCoord}
	sides := []int{-maxCoord, -1, 0, 1, maxCoord}
	var x toSolve
	for _, x.of = range some {
		for _, x.Edges = range some {
			for _, x.Least = range some {
				for _, x.Most = range some {
					for _, x.Left = range sides {
						for _, x.Right = range sides {
							x.Is = false
							freeMargins(x, func(x toSolve) { check(t, x) })
							x.Is = true
							for _, x.Width = range some {
								freeMargins(x, func(x toSolve) { check(t, x) })
							}
						}
					}
				}
			}
		}
	}
	r := rand.New(rand.NewSource(2))
	refused := 0
	for range 50000 {
		if check(t, bySeed(r, maxCoord+maxCoord/8)).e != api.OK {
			refused++
		}
	}
	if refused < 2000 || refused > 40000 {
		t.Errorf("%d of 50000 refused", refused)
	}
}

// P0.1: whatever numbers an int holds are answered.
func TestWild(t *testing.T) {
	wild := append([]int{-1, 0, 1, maxCoord, -maxCoord}, noLengths...)
	r := rand.New(rand.NewSource(3))
	for range 200000 {
		var x toSolve
		for _, h := range handed {
			*h.at(&x) = wild[r.Intn(len(wild))]
		}
		x.Is = r.Intn(2) == 0
		freeMargins(x, func(x toSolve) { check(t, x) })
	}
}

// P0.3: behind calls that are refused all are answered as ahead of them.
func TestRefusedChangesNothing(t *testing.T) {
	for _, x := range append(ordinary, examples...) {
		for _, s := range []string{"-1 0 0 0 0 0 0", "0 M+1 0 0 0 0 0", "0 M 0 M 1 0 -"} {
			if got := asks(s).solve(); got.e == api.OK || got != (solved{e: got.e}) {
				t.Errorf("%s: %v", s, got)
			}
			checkTold(t, asks(x.asks), tells(x.tells))
		}
	}
}

// P12.3: the room, but no less than narrow, and then no more than wide.
func TestFit(t *testing.T) {
	for _, x := range []struct{ narrow, wide, room, want int }{
		{10, 20, 15, 15},
		{10, 20, 10, 10},
		{10, 20, 9, 10},
		{10, 20, 20, 20},
		{10, 20, 21, 20},
		{10, 20, 0, 10},
		{10, 20, -5, 10},
		{0, 0, 15, 0},
		{0, 0, -15, 0},
		{10, 10, 15, 10},
		{10, 10, 5, 10},
		// a narrow above the wide: the wide
		{20, 10, 15, 10},
		{20, 10, 25, 10},
		{20, 10, 5, 10},
		{20, 10, 10, 10},
		{20, 10, 20, 10},
		// below 0
		{-20, -10, -15, -15},
		{-20, -10, 0, -10},
		{-20, -10, -30, -20},
		{-10, -20, -15, -20},
		// any numbers
		{math.MinInt, math.MaxInt, 5, 5},
		{math.MinInt, math.MaxInt, math.MinInt, math.MinInt},
		{math.MinInt, math.MaxInt, math.MaxInt, math.MaxInt},
		{math.MaxInt, math.MinInt, 5, math.MinInt},
		{math.MaxInt, math.MaxInt, math.MinInt, math.MaxInt},
		{0, maxCoord + 1, math.MaxInt, maxCoord + 1},
	} {
		if got := width.Fit(x.narrow, x.wide, x.room); got != x.want {
			t.Errorf("%+v: %d", x, got)
		}
	}
}

// P12.3: all small numbers, and some at the ends of an int.
func TestFitAll(t *testing.T) {
	some := append([]int{math.MinInt, math.MinInt + 1, -maxCoord, maxCoord, math.MaxInt - 1, math.MaxInt}, -3, -2, -1, 0, 1, 2, 3, 4)
	for _, narrow := range some {
		for _, wide := range some {
			for _, room := range some {
				want := room
				if want < narrow {
					want = narrow
				}
				if want > wide {
					want = wide
				}
				if got := width.Fit(narrow, wide, room); got != want {
					t.Fatalf("%d %d %d: %d, not %d", narrow, wide, room, got, want)
				}
			}
		}
	}
}
