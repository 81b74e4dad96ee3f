package block_test

import (
	"fmt"
	"math"
	"math/rand"
	"slices"
	"strconv"
	"strings"
	"testing"

	"windowpane/api"
	"windowpane/block"
	"windowpane/margin"
)

const (
	maxCoord = 1 << 40
	maxFrags = 2048
)

// box is how a box is open.
type box struct{ above, below bool }

// The four boxes.
var (
	closed    = box{}
	openAbove = box{above: true}
	openBelow = box{below: true}
	openBoth  = box{above: true, below: true}
	boxes     = []box{closed, openAbove, openBelow, openBoth}
)

func (b box) String() string {
	return [...]string{"closed", "open above", "open below", "open on both sides"}[slices.Index(boxes, b)]
}

// number reads a number; M is the greatest length, -M the least one, M+1 and
// -M-1 are just none, G and L are the greatest and the least int.
func number(s string) int {
	switch s {
	case "M":
		return maxCoord
	case "-M":
		return -maxCoord
	case "M-1":
		return maxCoord - 1
	case "-M+1":
		return 1 - maxCoord
	case "M+1":
		return maxCoord + 1
	case "-M-1":
		return -maxCoord - 1
	case "G":
		return math.MaxInt
	case "L":
		return math.MinInt
	}
	n, err := strconv.Atoi(s)
	if err != nil {
		panic(s)
	}
	return n
}

// marginOf reads a margin: of one length, or 8/-3, its Up and its Down.
func marginOf(s string) margin.Margin {
	up, down, both := strings.Cut(s, "/")
	if both {
		return margin.Margin{Up: number(up), Down: number(down)}
	}
	if n := number(s); n < 0 {
		return margin.Margin{Down: n}
	} else {
		return margin.Margin{Up: n}
	}
}

// kids reads kids as the chapter writes them: by Top, height, Bottom; t a
// through one, by Top and Bottom; T a through one with a height all the same.
func kids(s string) []block.Kid {
	var l []block.Kid
	for x := range strings.SplitSeq(s, ",") {
		switch f := strings.Fields(x); {
		case len(f) == 0:
		case f[0] == "t" && len(f) == 3:
			l = append(l, block.Kid{Top: marginOf(f[1]), Bottom: marginOf(f[2]), Through: true})
		case f[0] == "T" && len(f) == 4:
			l = append(l, block.Kid{Top: marginOf(f[1]), Height: number(f[2]), Bottom: marginOf(f[3]), Through: true})
		case len(f) == 3:
			l = append(l, block.Kid{Top: marginOf(f[0]), Height: number(f[1]), Bottom: marginOf(f[2])})
		default:
			panic(x)
		}
	}
	return l
}

// told writes what a box is as the chapter does: places; height; Top; Bottom;
// through.
func told(s block.Stacked) string {
	at := strings.Trim(fmt.Sprint(s.At), "[]")
	return fmt.Sprintf("%s; %d; %d %d; %d %d; %s", at, s.Height, s.Top.Up, s.Top.Down, s.Bottom.Up, s.Bottom.Down, map[bool]string{true: "yes", false: "no"}[s.Through])
}

// nothing is what is told beside an error.
const nothing = "; 0; 0 0; 0 0; no"

// short cuts long lists off, for telling.
func short(l []block.Kid) []block.Kid { return l[:min(len(l), 20)] }

// whatMeets tells the margin of all that meets in some margins.
func whatMeets(l []margin.Margin) margin.Margin {
	var meets margin.Margin
	for _, m := range l {
		if m.Up > meets.Up {
			meets.Up = m.Up
		}
		if m.Down < meets.Down {
			meets.Down = m.Down
		}
	}
	return meets
}

// lastTall tells the last kid, of those ahead of a place, that isn't through;
// -1, if there is none.
func lastTall(l []block.Kid, place int) int {
	for place--; place >= 0 && l[place].Through; place-- {
	}
	return place
}

// meetsAhead tells the margin of all that meets ahead of a place: from the last
// kid that isn't through on, with the Top of what stands there, if a kid does.
func meetsAhead(l []block.Kid, place int) margin.Margin {
	var meets []margin.Margin
	from := lastTall(l, place)
	if from >= 0 {
		meets = append(meets, l[from].Bottom)
	}
	for _, kid := range l[from+1 : place] {
		meets = append(meets, kid.Top, kid.Bottom)
	}
	if place < len(l) {
		meets = append(meets, l[place].Top)
	}
	return whatMeets(meets)
}

// placesByHand tells how far down each kid, and behind them the box's end, is.
func placesByHand(l []block.Kid, b box) []int {
	at := make([]int, len(l)+1)
	for i := range at {
		last, ahead := lastTall(l, i), meetsAhead(l, i)
		behind := 0
		if last >= 0 {
			behind = at[last] + l[last].Height
		}
		if last < 0 && b.above || i == len(l) && b.below {
			ahead = margin.Margin{}
		}
		at[i] = behind + ahead.Up + ahead.Down
	}
	return at
}

// stackedByHand tells what a box is, whether or not there is an error.
func stackedByHand(l []block.Kid, b box) block.Stacked {
	at := placesByHand(l, b)
	s := block.Stacked{At: at[:len(l)], Height: max(0, at[len(l)])}
	first := slices.IndexFunc(l, func(kid block.Kid) bool { return !kid.Through })
	switch {
	case b.above && first >= 0:
		s.Top = meetsAhead(l, first)
	case b.above:
		s.Top = meetsAhead(l, len(l))
		s.Through = b.below
	}
	if b.below && !(b.above && first < 0) {
		s.Bottom = meetsAhead(l, len(l))
	}
	return s
}

func isWrong(kid block.Kid) bool {
	if kid.Height < 0 || kid.Through && kid.Height > 0 {
		return true
	}
	return kid.Top.Up < 0 || kid.Bottom.Up < 0 || kid.Top.Down > 0 || kid.Bottom.Down > 0
}

func areLengths(l ...int) bool {
	return !slices.ContainsFunc(l, func(n int) bool { return n < -maxCoord || n > maxCoord })
}

func numbersOf(l []block.Kid) []int {
	var row []int
	for _, kid := range l {
		row = append(row, kid.Top.Up, kid.Top.Down, kid.Height, kid.Bottom.Up, kid.Bottom.Down)
	}
	return row
}

// byHand tells what is to come of it, by the chapter's words.
func byHand(l []block.Kid, b box) (block.Stacked, api.Errno) {
	if len(l) > maxFrags || slices.ContainsFunc(l, isWrong) {
		return block.Stacked{}, 2
	}
	if !areLengths(numbersOf(l)...) {
		return block.Stacked{}, 10
	}
	s := stackedByHand(l, b)
	if !areLengths(s.At...) || !areLengths(s.Height, s.Top.Up, s.Top.Down, s.Bottom.Up, s.Bottom.Down) {
		return block.Stacked{}, 10
	}
	return s, 0
}

func same(a, b block.Stacked) bool {
	return slices.Equal(a.At, b.At) && a.Height == b.Height && a.Top == b.Top && a.Bottom == b.Bottom && a.Through == b.Through
}

// check holds what is told of kids in a box against the chapter's words, asks
// that the row of them stays, and tells the error.
func check(t *testing.T, l []block.Kid, b box) api.Errno {
	t.Helper()
	row := slices.Clone(l)
	got, e := block.Stack(row, b.above, b.below)
	want, wantE := byHand(l, b)
	if e != wantE || !same(got, want) {
		t.Fatalf("%d kids, %v, %v: %s, error %d, not %s, error %d", len(l), short(l), b, told(got), e, told(want), wantE)
	}
	if !slices.Equal(row, l) {
		t.Fatalf("%v made the row %v", short(l), short(row))
	}
	return e
}

// checkTold holds what is told of kids in a box against what is written.
func checkTold(t *testing.T, s string, b box, want string, wantE api.Errno) {
	t.Helper()
	got, e := block.Stack(kids(s), b.above, b.below)
	if told(got) != want || e != wantE {
		t.Errorf("%s, %v: %s, error %d, not %s, error %d", s, b, told(got), e, want, wantE)
	}
	check(t, kids(s), b)
}

// alphabet is of kids with heights and of 0, and of through ones, with margins
// above 0, below 0, of 0 0, and of both sides at once.
var alphabet = kids("10 5 20, 15 1 -7, -4 0 3, 6/-9 7 2/-30, 0 2 0, t 8 9, t -5 12/-1, t 0 0, t 25/-3 -11")

// listsOf goes over all lists of so many of these kids.
func listsOf(alphabet []block.Kid, many int, do func(l []block.Kid)) {
	l := make([]block.Kid, many)
	var from func(at int)
	from = func(at int) {
		if at == many {
			do(l)
			return
		}
		for _, kid := range alphabet {
			l[at] = kid
			from(at + 1)
		}
	}
	from(0)
}

// bySeed tells kids, of numbers up to a most one; of them through ones are so
// many of ten.
func bySeed(r *rand.Rand, many, most, through int) []block.Kid {
	some := func() int { return r.Intn(most + 1) }
	someMargin := func() margin.Margin {
		return [...]margin.Margin{{}, {Up: some()}, {Down: -some()}, {Up: some(), Down: -some()}}[r.Intn(4)]
	}
	l := make([]block.Kid, many)
	for i := range l {
		l[i] = block.Kid{Top: someMargin(), Bottom: someMargin(), Through: r.Intn(10) < through}
		if !l[i].Through && r.Intn(4) > 0 {
			l[i].Height = some()
		}
	}
	return l
}

// goOver goes over kids of all kinds, of which none are refused in any box.
func goOver(do func(l []block.Kid)) {
	for many := range 5 {
		listsOf(alphabet, many, do)
	}
	r := rand.New(rand.NewSource(1))
	for i := range 20000 {
		do(bySeed(r, r.Intn(30), 1+r.Intn(1<<r.Intn(20)), i%11))
	}
}

// noLengths are numbers that are no lengths, just so, and as far from them as
// an int is.
var noLengths = []int{maxCoord + 1, -maxCoord - 1, 1 << 41, -1 << 41, 1 << 62, math.MaxInt - 1, math.MaxInt, math.MinInt + 1, math.MinInt}
