package margin_test

import (
	"math"
	"slices"
	"testing"

	"windowpane/margin"
)

// someRows are rows of margins of all kinds: of one length and of several, of
// both sides of 0 and of one, such as may not be, and twice the same.
var someRows = [][]margin.Margin{
	{{Up: 5}, {Up: 8}, {Down: -3}},
	{{Up: 5}, {Up: 8}, {Down: -3}, {Down: -7}, {}},
	{{Up: 1}, {Up: 2}, {Up: 3}, {Up: 4}, {Up: 5}, {Up: 6}},
	{{Down: -1}, {Down: -2}, {Down: -3}, {Down: -4}, {Down: -5}, {Down: -6}},
	{{Up: 4, Down: -9}, {Up: 7, Down: -1}, {Up: 4, Down: -9}, {}, {Up: 6, Down: -6}, {Up: 7, Down: -1}},
	{{Up: maxCoord}, {Down: -maxCoord}, {Up: maxCoord - 1, Down: 1 - maxCoord}, {Up: maxCoord + 1}, {Down: -maxCoord - 1}},
	{{Up: -5, Down: 5}, {Up: -2, Down: 9}, {Up: -9, Down: 2}, {Up: -4}, {Down: 4}},
	{{Up: -5, Down: 5}, {Up: -2, Down: 9}, {Up: -9, Down: 2}, {Up: -3, Down: 3}},
	{{Up: math.MinInt, Down: math.MaxInt}, {Up: math.MaxInt, Down: math.MinInt}, {}, {Up: math.MinInt, Down: math.MinInt}, {Up: math.MaxInt, Down: math.MaxInt}},
}

// P13.3: margins join in any order to the same.
func TestInAnyOrder(t *testing.T) {
	for _, l := range someRows {
		want := joined(l)
		orders(l, func(order []margin.Margin) {
			if got := margin.Join(order...); got != want {
				t.Fatalf("Join of %v: %v, not %v", order, got, want)
			}
		})
	}
}

// P13.3: margins join by any steps to the same: two by two, by every cut, in
// every order.
func TestByAnySteps(t *testing.T) {
	for _, l := range someRows {
		want := joined(l)
		orders(l, func(order []margin.Margin) {
			steps(order, func(got margin.Margin) {
				if got != want {
					t.Fatalf("Join of %v by steps: %v, not %v", order, got, want)
				}
			})
		})
	}
	rows(pairs([]int{-1, 0, 1}), 3, func(l []margin.Margin) {
		if len(l) > 0 {
			want := joined(l)
			steps(l, func(got margin.Margin) {
				if got != want {
					t.Fatalf("Join of %v by steps: %v, not %v", l, got, want)
				}
			})
		}
	})
}

// P13.3: so do parts of many margins, cut anywhere; an empty part counts for
// nothing beside margins of lengths.
func TestByAnyParts(t *testing.T) {
	lengthsBySeed(20000, func(lengths []int) {
		l, want := ones(lengths), of(lengths...)
		for cut := range len(l) + 1 {
			ahead, behind := margin.Join(l[:cut]...), margin.Join(l[cut:]...)
			for _, got := range []margin.Margin{margin.Join(ahead, behind), margin.Join(behind, ahead), margin.Join(append(slices.Clone(l[:cut]), behind)...), margin.Join(append([]margin.Margin{ahead}, l[cut:]...)...)} {
				if got != want {
					t.Fatalf("Join of %v, cut at %d: %v, not %v", lengths, cut, got, want)
				}
			}
		}
	})
}

// P13.3: a margin joined with itself is itself, however many times.
func TestWithItself(t *testing.T) {
	for _, m := range pairs(edges) {
		for many := 1; many <= 5; many++ {
			if got := margin.Join(slices.Repeat([]margin.Margin{m}, many)...); got != m {
				t.Errorf("Join of %d times %v: %v", many, m, got)
			}
		}
	}
}

// P13.3: a margin joined with those that it was joined of, with one or with
// some, stays.
func TestWithWhatItWasJoinedOf(t *testing.T) {
	check := func(l []margin.Margin) {
		m := margin.Join(l...)
		for i, one := range l {
			for _, got := range []margin.Margin{margin.Join(m, one), margin.Join(one, m), margin.Join(append(slices.Clone(l[i:]), m)...)} {
				if got != m {
					t.Fatalf("Join of %v, and of %v again: %v, not %v", l, one, got, m)
				}
			}
		}
	}
	for _, l := range someRows {
		check(l)
	}
	wildBySeed(20000, check)
}

// P13.1: margins of lengths join to the margin of all their lengths, and that
// may be.
func TestOfLengths(t *testing.T) {
	check := func(lengths []int) {
		got := margin.Join(ones(lengths)...)
		if want := of(lengths...); got != want {
			t.Fatalf("Join of %v: %v, not %v", lengths, got, want)
		}
		if !margin.May(got) {
			t.Fatalf("Join of %v: %v may not be", lengths, got)
		}
	}
	rows([]int{-maxCoord, -2, -1, 0, 1, 2, maxCoord}, 5, check)
	lengthsBySeed(50000, check)
}

// P13.4: of lengths none of which is below 0 a margin comes to the greatest, of
// such as are none above 0 to the least, of others to both together.
func TestWhatItComesTo(t *testing.T) {
	above, below, both := 0, 0, 0
	check := func(lengths []int) {
		if len(lengths) == 0 {
			return
		}
		greatest, least := slices.Max(lengths), slices.Min(lengths)
		want := greatest + least
		switch {
		case least >= 0:
			want = greatest
			above++
		case greatest <= 0:
			want = least
			below++
		default:
			both++
		}
		if got := margin.Join(ones(lengths)...).Value(); got != want {
			t.Fatalf("%v come to %d, not %d", lengths, got, want)
		}
	}
	rows([]int{-maxCoord, -2, -1, 0, 1, 2, maxCoord}, 5, check)
	lengthsBySeed(50000, check)
	if above < 1000 || below < 1000 || both < 1000 {
		t.Errorf("only %d, %d, %d", above, below, both)
	}
}

// P13.4: one length comes to itself.
func TestOneComesToItself(t *testing.T) {
	for _, n := range edges {
		if got := margin.One(n).Value(); got != n {
			t.Errorf("%d comes to %d", n, got)
		}
	}
}
