package inline_test

import (
	"math"
	"math/rand"
	"slices"
	"strconv"
	"strings"
	"testing"

	"windowpane/api"
	"windowpane/inline"
)

const (
	maxCoord = 1 << 40
	maxFrags = 2048

	onBase   = 0
	atTop    = 1
	atBottom = 2

	atStart  = 0
	atEnd    = 1
	atMiddle = 2
	stretch  = 5
)

// asked is what Place is asked for.
type asked struct {
	l               []inline.Spot
	up, down, width int
	lines           uint8
}

func (a asked) place() ([]inline.Pos, int, int, api.Errno) {
	return inline.Place(a.l, a.up, a.down, a.width, a.lines)
}

// String cuts long lists off.
func (a asked) String() string {
	row := make([]string, min(len(a.l), 20))
	for i := range row {
		x := a.l[i]
		row[i] = strconv.Itoa(int(x.Align)) + " " + numbers(x.Width, x.Up, x.Down)
	}
	return strconv.Itoa(len(a.l)) + " spots: " + strings.Join(row, ", ") + "; font " + numbers(a.up, a.down) + "; width " + numbers(a.width) + "; lines " + strconv.Itoa(int(a.lines))
}

func numbers(l ...int) string {
	row := make([]string, len(l))
	for i, n := range l {
		row[i] = strconv.Itoa(n)
	}
	return strings.Join(row, " ")
}

// number reads a number; M is the greatest length, -M the least one, M+1 and
// -M-1 are just none.
func number(s string) int {
	switch s {
	case "M":
		return maxCoord
	case "-M":
		return -maxCoord
	case "M+1":
		return maxCoord + 1
	case "-M-1":
		return -maxCoord - 1
	}
	n, err := strconv.Atoi(s)
	if err != nil {
		panic(s)
	}
	return n
}

// spots reads spots, four words each: how one stands, how wide it is, and how
// far it goes up and down.
func spots(s string) []inline.Spot {
	var l []inline.Spot
	for x := range slices.Chunk(strings.Fields(s), 4) {
		align := slices.Index([]string{"base", "top", "bottom"}, x[0])
		if align < 0 {
			panic(x[0])
		}
		l = append(l, inline.Spot{Width: number(x[1]), Up: number(x[2]), Down: number(x[3]), Align: uint8(align)})
	}
	return l
}

// told writes places, a height and a base as the chapter does.
func told(at []inline.Pos, height, base int) string {
	row := make([]string, len(at))
	for i, pos := range at {
		row[i] = numbers(pos.X, pos.Y)
	}
	return strings.Join(row, ", ") + "; " + numbers(height) + "; " + numbers(base)
}

// nothing is what is told beside an error.
const nothing = "; 0; 0"

// byHand tells what is to come of it, by the chapter's words.
func (a asked) byHand() (at []inline.Pos, height, base int, e api.Errno) {
	if a.isWrong() {
		return nil, 0, 0, 2
	}
	handedIn := []int{a.up, a.down, a.width}
	for _, x := range a.l {
		handedIn = append(handedIn, x.Width, x.Up, x.Down)
	}
	if !areLengths(handedIn) {
		return nil, 0, 0, 10
	}
	height, base = a.heightByHand(), a.baseByHand()
	toTell := []int{height, base}
	behind := a.leadByHand()
	for _, x := range a.l {
		pos := inline.Pos{X: behind}
		switch x.Align {
		case onBase:
			pos.Y = base - x.Up
		case atBottom:
			pos.Y = height - x.Up - x.Down
		}
		behind += x.Width
		toTell = append(toTell, pos.X, pos.Y)
		at = append(at, pos)
	}
	if !areLengths(toTell) {
		return nil, 0, 0, 10
	}
	return at, height, base, 0
}

func (a asked) isWrong() bool {
	isNone := func(x inline.Spot) bool { return x.Align != onBase && x.Align != atTop && x.Align != atBottom }
	if len(a.l) > maxFrags || slices.ContainsFunc(a.l, isNone) {
		return true
	}
	return a.lines != atStart && a.lines != atEnd && a.lines != atMiddle
}

func areLengths(l []int) bool {
	return !slices.ContainsFunc(l, func(n int) bool { return n < -maxCoord || n > maxCoord })
}

// leadByHand goes up from nothing.
func (a asked) leadByHand() int {
	left := a.width
	for _, x := range a.l {
		left -= x.Width
	}
	if left < 0 || a.lines == atStart {
		return 0
	}
	if a.lines == atMiddle {
		return left >> 1
	}
	return left
}

// baseByHand tells the greatest Up of the font, and of what stands on the base.
func (a asked) baseByHand() int {
	ups := []int{a.up}
	for _, x := range a.l {
		if x.Align == onBase {
			ups = append(ups, x.Up)
		}
	}
	return slices.Max(ups)
}

func (a asked) heightByHand() int {
	downs, heights := []int{a.down}, []int{}
	for _, x := range a.l {
		if x.Align == onBase {
			downs = append(downs, x.Down)
		} else {
			heights = append(heights, x.Up+x.Down)
		}
	}
	return slices.Max(append(heights, a.baseByHand()+slices.Max(downs)))
}

// check holds what is told against the chapter's words, and tells the error.
func check(t *testing.T, a asked) api.Errno {
	t.Helper()
	at, height, base, e := a.place()
	wantAt, wantHeight, wantBase, wantE := a.byHand()
	if e != wantE || !slices.Equal(at, wantAt) || height != wantHeight || base != wantBase {
		t.Fatalf("%s: %s, error %d, not %s, error %d", a, told(at, height, base), e, told(wantAt, wantHeight, wantBase), wantE)
	}
	return e
}

// checkTold holds what is told against what is written.
func checkTold(t *testing.T, a asked, want string, wantE api.Errno) {
	t.Helper()
	at, height, base, e := a.place()
	if got := told(at, height, base); got != want || e != wantE {
		t.Errorf("%s: %s, error %d, not %s, error %d", a, got, e, want, wantE)
	}
	check(t, a)
}

// listsOf goes over all lists of so many of these spots.
func listsOf(alphabet []inline.Spot, many int, do func(l []inline.Spot)) {
	l := make([]inline.Spot, many)
	var from func(at int)
	from = func(at int) {
		if at == many {
			do(l)
			return
		}
		for _, x := range alphabet {
			l[at] = x
			from(at + 1)
		}
	}
	from(0)
}

// bySeed tells spots of each Align, of numbers up to a most one, and below 0
// only if that is asked for.
func bySeed(r *rand.Rand, many, most int, below bool) asked {
	some := func() int {
		n := r.Intn(most + 1)
		if below && r.Intn(3) == 0 {
			return -n
		}
		return n
	}
	aligns := []uint8{onBase, atTop, atBottom}
	for range r.Intn(6) {
		aligns = append(aligns, aligns[r.Intn(3)])
	}
	l := make([]inline.Spot, many)
	for i := range l {
		l[i] = inline.Spot{Width: some(), Up: some(), Down: some(), Align: aligns[r.Intn(len(aligns))]}
	}
	return asked{l: l, up: some(), down: some(), width: some() * (1 + r.Intn(many+1)), lines: uint8(r.Intn(3))}
}

// goOver goes over spots, fonts, widths, and how lines stand, of which none is
// refused.
func goOver(do func(a asked)) {
	fonts := [][2]int{{0, 0}, {3, 1}, {1, 4}, {-2, 1}, {2, -3}, {-1, -2}}
	alphabet := spots("base 2 5 0 base 1 1 2 base 0 -4 -1 base -1 -1 6 top 3 1 1 top 2 9 0 top 0 -2 1 bottom 1 2 6 bottom 3 0 3 bottom -2 1 -5")
	for many := range 4 {
		listsOf(alphabet, many, func(l []inline.Spot) {
			for _, font := range fonts {
				for width := -2; width < 12; width++ {
					for lines := range uint8(3) {
						do(asked{l: l, up: font[0], down: font[1], width: width, lines: lines})
					}
				}
			}
		})
	}
	r := rand.New(rand.NewSource(1))
	for i := range 20000 {
		do(bySeed(r, r.Intn(30), 1+r.Intn(20), i%2 == 0))
	}
}

// noLengths are numbers that are no lengths, just so, and as far from them as
// an int is.
var noLengths = []int{maxCoord + 1, -maxCoord - 1, 1 << 41, -1 << 41, math.MaxInt - 1, math.MaxInt, math.MinInt + 1, math.MinInt}
