package width_test

import (
	"math"
	"math/rand"
	"strconv"
	"strings"
	"testing"

	"windowpane/api"
	"windowpane/width"
)

const maxCoord = 1 << 40

// noLengths are numbers that are no lengths, just so, and as far from them as
// an int is.
var noLengths = []int{maxCoord + 1, -maxCoord - 1, 1 << 41, -1 << 41, 1 << 62, math.MaxInt - 1, math.MaxInt, math.MinInt + 1, math.MinInt}

// toSolve is what Solve is asked for.
type toSolve struct {
	of int
	width.Asked
}

// solved is what Solve tells.
type solved struct {
	left, width, right int
	e                  api.Errno
}

func (x toSolve) solve() solved {
	left, wide, right, e := width.Solve(x.of, x.Asked)
	return solved{left, wide, right, e}
}

// number reads a number: M is the greatest length, max the greatest number that
// an int holds.
func number(s string) int {
	for _, x := range []struct {
		word string
		n    int
	}{
		{"M", maxCoord}, {"-M", -maxCoord}, {"M+1", maxCoord + 1}, {"-M-1", -maxCoord - 1},
		{"M-1", maxCoord - 1}, {"-M+1", 1 - maxCoord}, {"max", math.MaxInt}, {"min", math.MinInt},
	} {
		if s == x.word {
			return x.n
		}
	}
	n, err := strconv.Atoi(s)
	if err != nil {
		panic(s)
	}
	return n
}

// numbers reads so many numbers.
func numbers(s string, many int) []int {
	words := strings.Fields(s)
	if len(words) != many {
		panic(s)
	}
	l := make([]int, many)
	for i, word := range words {
		l[i] = number(word)
	}
	return l
}

// asks reads what is asked for, in words: how wide it is around, how wide the
// edges are, the least, the most, the left margin, the right one, and the width
// (- for none). An f ahead of a margin says that it is free; a ? ahead of a
// width, that none is asked for, whatever stands there.
func asks(s string) toSolve {
	words := strings.Fields(s)
	if len(words) != 7 {
		panic(s)
	}
	x := toSolve{of: number(words[0])}
	x.Edges, x.Least, x.Most = number(words[1]), number(words[2]), number(words[3])
	x.Left, x.AutoLeft = marked(words[4], "f")
	x.Right, x.AutoRight = marked(words[5], "f")
	if words[6] != "-" {
		n, isNone := marked(words[6], "?")
		x.Width, x.Is = n, !isNone
	}
	return x
}

func marked(word, mark string) (n int, is bool) {
	rest, is := strings.CutPrefix(word, mark)
	return number(rest), is
}

// tells reads what is told: the left margin, the width, and the right one.
func tells(s string) solved {
	l := numbers(s, 3)
	return solved{left: l[0], width: l[1], right: l[2]}
}

// byHand tells what is to come of it, by the chapter's words.
func (x toSolve) byHand() solved {
	notBelow, handedIn := []int{x.of, x.Least, x.Most, x.Edges}, []int{x.of, x.Least, x.Most, x.Edges, x.Left, x.Right}
	if x.Is {
		notBelow, handedIn = append(notBelow, x.Width), append(handedIn, x.Width)
	}
	for _, n := range notBelow {
		if n < 0 {
			return solved{e: 2}
		}
	}
	if !areLengths(handedIn...) {
		return solved{e: 10}
	}
	s := solved{left: x.Left, right: x.Right}
	if x.AutoLeft {
		s.left = 0
	}
	if x.AutoRight {
		s.right = 0
	}
	s.width = x.widthByHand(s.left, s.right)
	s = x.marginsByHand(s)
	if !areLengths(s.left, s.width, s.right) {
		return solved{e: 10}
	}
	return s
}

func areLengths(l ...int) bool {
	for _, n := range l {
		if n < -maxCoord || n > maxCoord {
			return false
		}
	}
	return true
}

func (x toSolve) widthByHand(left, right int) int {
	n := x.of - left - right - x.Edges
	if n < 0 {
		n = 0
	}
	if x.Is {
		n = x.Width
	}
	if n > x.Most {
		n = x.Most
	}
	if n < x.Least {
		n = x.Least
	}
	return n
}

func (x toSolve) marginsByHand(s solved) solved {
	isLeft := x.of - (s.left + x.Edges + s.width + s.right)
	if isLeft < 0 || !x.AutoLeft && !x.AutoRight {
		s.right = s.right + isLeft
		return s
	}
	if x.AutoLeft && x.AutoRight {
		s.left = int(math.Floor(float64(isLeft) / 2))
		s.right = isLeft - s.left
		return s
	}
	if x.AutoLeft {
		s.left = isLeft
	}
	if x.AutoRight {
		s.right = isLeft
	}
	return s
}

// check holds what is told against the chapter's words, and tells it.
func check(t *testing.T, x toSolve) solved {
	t.Helper()
	got, want := x.solve(), x.byHand()
	if got != want {
		t.Fatalf("%+v: %v, not %v", x, got, want)
	}
	return got
}

// checkTold holds what is told against what is written.
func checkTold(t *testing.T, x toSolve, want solved) {
	t.Helper()
	if got := x.solve(); got != want {
		t.Errorf("%+v: %v, not %v", x, got, want)
	}
	check(t, x)
}

// freeMargins goes over which margins are free.
func freeMargins(x toSolve, do func(x toSolve)) {
	for free := range 4 {
		x.AutoLeft, x.AutoRight = free&1 != 0, free&2 != 0
		do(x)
	}
}

// goOver goes over what may be asked for, of which none is refused: of all
// small numbers, and of such by a fixed seed.
func goOver(do func(x toSolve)) {
	widths := []toSolve{{}, {}, {}, {}, {}, {}}
	widths[0].Width = -3
	widths[1].Width = 4
	for i, n := range []int{0, 1, 3, 8} {
		widths[2+i].Is, widths[2+i].Width = true, n
	}
	for _, x := range widths {
		for _, x.of = range []int{0, 1, 2, 5, 8} {
			for _, x.Edges = range []int{0, 1, 5, 7} {
				for _, x.Least = range []int{0, 1, 6} {
					for _, x.Most = range []int{0, 2, 9} {
						for _, x.Left = range []int{-4, -1, 0, 2, 5} {
							for _, x.Right = range []int{-3, 0, 1, 6} {
								freeMargins(x, do)
							}
						}
					}
				}
			}
		}
	}
	r := rand.New(rand.NewSource(1))
	for range 100000 {
		do(bySeed(r, 1<<r.Intn(37)))
	}
}

// bySeed asks for numbers up to a most one.
func bySeed(r *rand.Rand, most int) toSolve {
	some := func() int { return r.Intn(most + 1) }
	x := toSolve{of: some()}
	x.Is = r.Intn(2) == 0
	x.AutoLeft, x.AutoRight = r.Intn(2) == 0, r.Intn(2) == 0
	x.Width, x.Least, x.Most, x.Edges = some(), some()>>r.Intn(10), some(), some()>>r.Intn(10)
	x.Left, x.Right = some()>>r.Intn(10), some()>>r.Intn(10)
	if r.Intn(3) == 0 {
		x.Left = -x.Left
	}
	if r.Intn(3) == 0 {
		x.Right = -x.Right
	}
	if r.Intn(3) == 0 {
		x.Most = maxCoord
	}
	return x
}
