package margin_test

import (
	"math"
	"math/big"
	"slices"
	"testing"

	"windowpane/margin"
)

// P13.1, P13.2: all rows of the chapter's examples.
func TestExamples(t *testing.T) {
	for _, x := range []struct{ got, want margin.Margin }{
		{margin.One(5), margin.Margin{Up: 5, Down: 0}},
		{margin.One(-3), margin.Margin{Up: 0, Down: -3}},
		{margin.One(0), margin.Margin{Up: 0, Down: 0}},
		{margin.Join(margin.One(5), margin.One(8), margin.One(-3)), margin.Margin{Up: 8, Down: -3}},
		{margin.Join(), margin.Margin{Up: 0, Down: 0}},
	} {
		if x.got != x.want {
			t.Errorf("%v, not %v", x.got, x.want)
		}
	}
	if n := (margin.Margin{Up: 8, Down: -3}).Value(); n != 5 {
		t.Errorf("8 -3 comes to %d", n)
	}
	if !margin.May(margin.Margin{Up: 8, Down: -3}) {
		t.Error("8 -3 may not be")
	}
	if margin.May(margin.Margin{Up: -1, Down: 0}) {
		t.Error("-1 0 may be")
	}
}

// P13.1: one length above 0, below 0, and 0, however far, no lengths too.
func TestOne(t *testing.T) {
	for _, x := range []struct{ n, up, down int }{
		{0, 0, 0}, {1, 1, 0}, {-1, 0, -1}, {640, 640, 0}, {-640, 0, -640},
		{maxCoord, maxCoord, 0}, {-maxCoord, 0, -maxCoord},
		{maxCoord + 1, maxCoord + 1, 0}, {-maxCoord - 1, 0, -maxCoord - 1},
		{math.MaxInt, math.MaxInt, 0}, {math.MinInt, 0, math.MinInt},
	} {
		if got := margin.One(x.n); got.Up != x.up || got.Down != x.down {
			t.Errorf("One of %d: %v", x.n, got)
		}
	}
	check := func(n int) {
		if got, want := margin.One(n), of(n); got != want {
			t.Errorf("One of %d: %v, not %v", n, got, want)
		}
	}
	for n := -1000; n <= 1000; n++ {
		check(n)
	}
	for _, n := range edges {
		check(n)
	}
}

// P13.1: lengths above 0 alone, below 0 alone, both together, and 0 among them.
func TestJoinLengths(t *testing.T) {
	for _, x := range []struct {
		lengths  []int
		up, down int
	}{
		{[]int{5}, 5, 0}, {[]int{-5}, 0, -5}, {[]int{0}, 0, 0},
		{[]int{0, 0, 0}, 0, 0},
		{[]int{3, 9, 4}, 9, 0}, {[]int{9, 4, 3}, 9, 0}, {[]int{4, 3, 9}, 9, 0}, {[]int{7, 7}, 7, 0},
		{[]int{-3, -9, -4}, 0, -9}, {[]int{-9, -4, -3}, 0, -9}, {[]int{-4, -3, -9}, 0, -9}, {[]int{-7, -7}, 0, -7},
		{[]int{3, -9, 4, -2}, 4, -9}, {[]int{-2, 4, -9, 3}, 4, -9}, {[]int{6, -6}, 6, -6}, {[]int{-6, 6}, 6, -6},
		{[]int{0, 3, 0}, 3, 0}, {[]int{0, -3, 0}, 0, -3}, {[]int{0, 3, 0, -3, 0}, 3, -3},
		{[]int{maxCoord, -maxCoord, maxCoord - 1, 1 - maxCoord}, maxCoord, -maxCoord},
		{[]int{maxCoord, maxCoord + 1, -maxCoord - 1, -maxCoord}, maxCoord + 1, -maxCoord - 1},
		{[]int{math.MaxInt, math.MinInt, math.MaxInt - 1, math.MinInt + 1}, math.MaxInt, math.MinInt},
	} {
		if got := checkJoin(t, ones(x.lengths)); got.Up != x.up || got.Down != x.down {
			t.Errorf("Join of %v: %v", x.lengths, got)
		}
	}
}

// P13.1: of nothing, of a nil row, of an empty one, whatever stands behind it.
func TestJoinOfNothing(t *testing.T) {
	room := []margin.Margin{{Up: 7, Down: -7}, {Up: 8, Down: -8}}
	for i, got := range []margin.Margin{margin.Join(), margin.Join(nil...), margin.Join([]margin.Margin{}...), margin.Join(room[:0]...), margin.Join(room[2:]...)} {
		if got != (margin.Margin{}) {
			t.Errorf("%d: %v", i, got)
		}
	}
}

// P13.1: of one margin, of such as may not be, too: it is itself.
func TestJoinOfOne(t *testing.T) {
	for _, m := range pairs(edges) {
		if got := margin.Join(m); got != m {
			t.Errorf("Join of %v: %v", m, got)
		}
	}
}

// P13.1: margins that may not be can be joined: the greatest Up, the least Down.
func TestJoinOfWhatMayNotBe(t *testing.T) {
	for _, x := range []struct {
		l    []margin.Margin
		want margin.Margin
	}{
		{[]margin.Margin{{Up: -5}, {Up: -2}, {Up: -9}}, margin.Margin{Up: -2}},
		{[]margin.Margin{{Down: 5}, {Down: 2}, {Down: 9}}, margin.Margin{Down: 2}},
		{[]margin.Margin{{Up: -5, Down: 5}, {Up: -2, Down: 2}}, margin.Margin{Up: -2, Down: 2}},
		{[]margin.Margin{{Up: -2, Down: 9}, {Up: -5, Down: 2}}, margin.Margin{Up: -2, Down: 2}},
		{[]margin.Margin{{Up: -5, Down: 5}, {}}, margin.Margin{}},
		{[]margin.Margin{{}, {Up: -5, Down: 5}}, margin.Margin{}},
		{[]margin.Margin{{Up: -5, Down: 5}, {Up: 3, Down: -4}}, margin.Margin{Up: 3, Down: -4}},
		{[]margin.Margin{{Up: math.MinInt, Down: math.MaxInt}, {Up: math.MinInt, Down: math.MaxInt}}, margin.Margin{Up: math.MinInt, Down: math.MaxInt}},
		{[]margin.Margin{{Up: math.MinInt, Down: math.MaxInt}, {Up: math.MaxInt, Down: math.MinInt}}, margin.Margin{Up: math.MaxInt, Down: math.MinInt}},
		{[]margin.Margin{{Up: maxCoord + 1, Down: -maxCoord - 1}, {Up: maxCoord, Down: -maxCoord}}, margin.Margin{Up: maxCoord + 1, Down: -maxCoord - 1}},
	} {
		if got := checkJoin(t, x.l); got != x.want {
			t.Errorf("Join of %v: %v, not %v", x.l, got, x.want)
		}
	}
}

// P13.1: all rows of a few margins, small ones and at the edges, and others by
// a fixed seed.
func TestJoinAll(t *testing.T) {
	rows(pairs([]int{-1, 0, 1}), 4, func(l []margin.Margin) { checkJoin(t, l) })
	rows(pairs([]int{math.MinInt, -maxCoord, 0, maxCoord, math.MaxInt}), 3, func(l []margin.Margin) { checkJoin(t, l) })
	rows(pairs(edges), 2, func(l []margin.Margin) { checkJoin(t, l) })
	wildBySeed(50000, func(l []margin.Margin) { checkJoin(t, l) })
}

// P13.1: the greatest Up and the least Down count wherever they stand in a row,
// a long one too.
func TestJoinAnywhere(t *testing.T) {
	for _, many := range []int{1, 2, 3, 4, 5, 17} {
		for up := range many {
			for down := range many {
				l := make([]margin.Margin, many)
				for i := range l {
					l[i] = margin.Margin{Up: 10 + i%3, Down: -20 - i%3}
				}
				l[up].Up, l[down].Down = 100, -200
				if got := checkJoin(t, l); got != (margin.Margin{Up: 100, Down: -200}) {
					t.Errorf("%v: %v", l, got)
				}
			}
		}
	}
	long := make([]margin.Margin, 100000)
	for i := range long {
		long[i] = margin.Margin{Up: i, Down: i - len(long)}
	}
	if got := checkJoin(t, long); got != (margin.Margin{Up: 99999, Down: -100000}) {
		t.Errorf("a long row: %v", got)
	}
}

// P13.2: what margins come to: both together, as int's addition says.
func TestValue(t *testing.T) {
	for _, x := range []struct{ up, down, want int }{
		{0, 0, 0}, {5, 0, 5}, {0, -5, -5}, {8, -3, 5}, {3, -8, -5}, {7, -7, 0},
		{maxCoord, 0, maxCoord}, {0, -maxCoord, -maxCoord}, {maxCoord, -maxCoord, 0}, {maxCoord, -1, maxCoord - 1},
		{-1, 0, -1}, {0, 1, 1}, {-4, 9, 5}, {maxCoord + 1, 0, maxCoord + 1}, {maxCoord, maxCoord, 2 * maxCoord},
		{math.MaxInt, 0, math.MaxInt}, {0, math.MinInt, math.MinInt}, {math.MaxInt, math.MinInt, -1}, {math.MinInt, math.MaxInt, -1},
		// both together are no int
		{math.MaxInt, 1, math.MinInt}, {1, math.MaxInt, math.MinInt}, {math.MinInt, -1, math.MaxInt}, {-1, math.MinInt, math.MaxInt},
		{math.MaxInt, math.MaxInt, -2}, {math.MinInt, math.MinInt, 0},
	} {
		if got := (margin.Margin{Up: x.up, Down: x.down}).Value(); got != x.want {
			t.Errorf("%d %d comes to %d, not %d", x.up, x.down, got, x.want)
		}
	}
	for _, m := range pairs(edges) {
		if got, want := m.Value(), wrappedSum(m.Up, m.Down); got != want {
			t.Errorf("%v comes to %d, not %d", m, got, want)
		}
	}
}

// wrappedSum tells a sum as one of 64 bits: what goes beyond them is left out.
func wrappedSum(a, b int) int {
	sum := new(big.Int).Add(big.NewInt(int64(a)), big.NewInt(int64(b)))
	sum.And(sum, new(big.Int).SetUint64(math.MaxUint64))
	return int(sum.Uint64())
}

// P13.2: an Up is from 0 to MaxCoord, a Down from -MaxCoord to 0.
func TestMay(t *testing.T) {
	for _, x := range []struct {
		up, down int
		may      bool
	}{
		{0, 0, true}, {5, 0, true}, {0, -5, true}, {8, -3, true}, {3, -8, true},
		{maxCoord, 0, true}, {0, -maxCoord, true}, {maxCoord, -maxCoord, true}, {maxCoord - 1, 1 - maxCoord, true},
		{maxCoord + 1, 0, false}, {0, -maxCoord - 1, false}, {maxCoord + 1, -maxCoord - 1, false},
		{maxCoord + 1, -maxCoord, false}, {maxCoord, -maxCoord - 1, false},
		{-1, 0, false}, {0, 1, false}, {-1, 1, false}, {-1, -1, false}, {1, 1, false}, {-3, 8, false},
		{math.MaxInt, 0, false}, {math.MinInt, 0, false}, {0, math.MaxInt, false}, {0, math.MinInt, false},
		{math.MaxInt, math.MinInt, false}, {math.MinInt, math.MaxInt, false},
	} {
		if got := margin.May(margin.Margin{Up: x.up, Down: x.down}); got != x.may {
			t.Errorf("%d %d: %t", x.up, x.down, got)
		}
	}
	ups := []int{0, 1, 2, 1 << 32, maxCoord - 1, maxCoord}
	downs := []int{0, -1, -2, -1 << 32, 1 - maxCoord, -maxCoord}
	for _, m := range pairs(edges) {
		if got, want := margin.May(m), slices.Contains(ups, m.Up) && slices.Contains(downs, m.Down); got != want {
			t.Errorf("%v: %t", m, got)
		}
	}
}

// P0.4: the row that is handed in stays, what stands ahead of it and behind it
// neither counts nor changes, and nothing of it is kept.
func TestRowStays(t *testing.T) {
	row := []margin.Margin{{Up: 99, Down: -99}, {Up: 3, Down: -1}, {Up: 5, Down: 0}, {Up: 0, Down: -4}, {Up: 98, Down: -98}}
	was := slices.Clone(row)
	got := margin.Join(row[1:4]...)
	if got != (margin.Margin{Up: 5, Down: -4}) {
		t.Errorf("%v", got)
	}
	if !slices.Equal(row, was) {
		t.Errorf("the row is %v, not %v", row, was)
	}
	row[1], row[2], row[3] = margin.Margin{Up: 1}, margin.Margin{}, margin.Margin{}
	if got != (margin.Margin{Up: 5, Down: -4}) {
		t.Errorf("behind a change of the row: %v", got)
	}
	if again := margin.Join(row[1:4]...); again != (margin.Margin{Up: 1}) {
		t.Errorf("the changed row: %v", again)
	}
	if none := margin.Join(); none != (margin.Margin{}) {
		t.Errorf("nothing, behind others: %v", none)
	}
}

// P13.2: the margin of which it is asked stays.
func TestMarginStays(t *testing.T) {
	for _, was := range pairs(edges) {
		m := was
		margin.May(m)
		m.Value()
		margin.Join(m, margin.Margin{Up: 7, Down: -7})
		if m != was {
			t.Errorf("%v, not %v", m, was)
		}
	}
}
