package margin_test

import (
	"math"
	"math/rand"
	"slices"
	"testing"

	"windowpane/margin"
)

const maxCoord = 1 << 40

// edges are numbers about which an answer may change: 0, the bound, and the
// greatest and the least number that an int holds.
var edges = []int{
	math.MinInt, math.MinInt + 1, -1 << 62, -maxCoord - 2, -maxCoord - 1, -maxCoord, 1 - maxCoord, -1 << 32, -2, -1,
	0,
	1, 2, 1 << 32, maxCoord - 1, maxCoord, maxCoord + 1, maxCoord + 2, 1 << 62, math.MaxInt - 1, math.MaxInt,
}

// of tells the margin of lengths, by the chapter's words: the greatest of those
// above 0, the least of those below 0.
func of(lengths ...int) margin.Margin {
	var above, below []int
	for _, n := range lengths {
		if n > 0 {
			above = append(above, n)
		}
		if n < 0 {
			below = append(below, n)
		}
	}
	var m margin.Margin
	if len(above) > 0 {
		slices.Sort(above)
		m.Up = above[len(above)-1]
	}
	if len(below) > 0 {
		slices.Sort(below)
		m.Down = below[0]
	}
	return m
}

// joined tells what margins join to, by the chapter's words: the greatest Up,
// the least Down, of none 0 0.
func joined(l []margin.Margin) margin.Margin {
	if len(l) == 0 {
		return margin.Margin{}
	}
	var ups, downs []int
	for _, m := range l {
		ups, downs = append(ups, m.Up), append(downs, m.Down)
	}
	slices.Sort(ups)
	slices.Sort(downs)
	return margin.Margin{Up: ups[len(ups)-1], Down: downs[0]}
}

// checkJoin holds what margins join to against the chapter's words, and asks
// that the row of them is left as it was; it tells what they join to.
func checkJoin(t *testing.T, l []margin.Margin) margin.Margin {
	t.Helper()
	row := slices.Clone(l)
	got := margin.Join(row...)
	if want := joined(l); got != want {
		t.Fatalf("Join of %v: %v, not %v", l, got, want)
	}
	if !slices.Equal(row, l) {
		t.Fatalf("Join of %v made the row %v", l, row)
	}
	return got
}

// ones tells the margins of lengths, one of each.
func ones(lengths []int) []margin.Margin {
	l := make([]margin.Margin, len(lengths))
	for i, n := range lengths {
		l[i] = margin.One(n)
	}
	return l
}

// pairs tells the margins of all of these numbers, as Up and as Down.
func pairs(numbers []int) []margin.Margin {
	var l []margin.Margin
	for _, up := range numbers {
		for _, down := range numbers {
			l = append(l, margin.Margin{Up: up, Down: down})
		}
	}
	return l
}

// rows goes over all rows of up to so many things of these.
func rows[T any](things []T, most int, do func(row []T)) {
	var extend func(row []T)
	extend = func(row []T) {
		do(slices.Clone(row))
		if len(row) == most {
			return
		}
		for _, thing := range things {
			extend(append(slices.Clone(row), thing))
		}
	}
	extend(nil)
}

// orders goes over all orders of a row.
func orders[T any](row []T, do func(row []T)) {
	if len(row) == 0 {
		do(nil)
		return
	}
	for i := range row {
		rest := slices.Concat(row[:i], row[i+1:])
		orders(rest, func(order []T) { do(append([]T{row[i]}, order...)) })
	}
}

// steps goes over all that a row joins to by cutting it in two, anywhere, and
// joining what both parts join to.
func steps(row []margin.Margin, do func(m margin.Margin)) {
	if len(row) == 1 {
		do(row[0])
		return
	}
	for cut := 1; cut < len(row); cut++ {
		steps(row[:cut], func(a margin.Margin) {
			steps(row[cut:], func(b margin.Margin) { do(margin.Join(a, b)) })
		})
	}
}

// lengthsBySeed tells rows of lengths, by a fixed seed: of both sides of 0, of
// one alone, small ones and great ones.
func lengthsBySeed(many int, do func(lengths []int)) {
	r := rand.New(rand.NewSource(1))
	for range many {
		most, sides := 1<<r.Intn(41), r.Intn(3)
		lengths := make([]int, r.Intn(12))
		for i := range lengths {
			n := r.Intn(most + 1)
			if sides == 0 || sides == 1 && r.Intn(2) == 0 {
				n = -n
			}
			lengths[i] = n
		}
		do(lengths)
	}
}

// wildBySeed tells rows of margins, by a fixed seed, of whatever an int holds.
func wildBySeed(many int, do func(l []margin.Margin)) {
	r := rand.New(rand.NewSource(2))
	some := func() int { return int(r.Uint64()) >> r.Intn(64) }
	for range many {
		l := make([]margin.Margin, r.Intn(12))
		for i := range l {
			l[i] = margin.Margin{Up: some(), Down: some()}
		}
		do(l)
	}
}
