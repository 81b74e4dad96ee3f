package flex_test

import (
	"math"
	"math/rand"
	"slices"
	"strconv"
	"strings"
	"testing"

	"windowpane/api"
	"windowpane/flex"
)

const (
	maxCoord = 1 << 40
	maxNodes = 300
)

// The ways to stand, and one that none is.
const (
	atStart uint8 = iota
	atEnd
	atMiddle
	between
	evenly
	stretch
	none
)

var (
	alongWays  = []uint8{atStart, atEnd, atMiddle, between, evenly}
	acrossWays = []uint8{atStart, atEnd, atMiddle, stretch}
	bothTurns  = []bool{false, true}
)

// noLengths are numbers that are no lengths, just so, and as far from them as
// an int is.
var noLengths = []int{maxCoord + 1, -maxCoord - 1, 1 << 41, -1 << 41, 1 << 62, math.MaxInt - 1, math.MaxInt, math.MinInt + 1, math.MinInt}

// number reads a number; M is the greatest length, -M the least one, M+1 and
// -M-1 are just none, G and L are the greatest and the least int.
func number(s string) int {
	switch s {
	case "M":
		return maxCoord
	case "-M":
		return -maxCoord
	case "M-1":
		return maxCoord - 1
	case "-M+1":
		return 1 - maxCoord
	case "M+1":
		return maxCoord + 1
	case "-M-1":
		return -maxCoord - 1
	case "G":
		return math.MaxInt
	case "L":
		return math.MinInt
	}
	n, err := strconv.Atoi(s)
	if err != nil {
		panic(s)
	}
	return n
}

// numbers reads a row of numbers.
func numbers(s string) []int {
	var row []int
	for _, word := range strings.Fields(s) {
		row = append(row, number(word))
	}
	return row
}

// how is all that boxes stand by along their line, but for themselves.
type how struct {
	gap, room int
	justify   uint8
	back      bool
}

func isLength(n int) bool { return -maxCoord <= n && n <= maxCoord }

// together tells what numbers come to.
func together(l []int) int {
	n := 0
	for _, x := range l {
		n += x
	}
	return n
}

// leftBeside tells what is left of a room beside boxes and the gaps between
// them.
func leftBeside(outer []int, gap, room int) int {
	return room - together(outer) - gap*max(len(outer)-1, 0)
}

// ahead tells what stands ahead of the first box, between two boxes (at each
// place from 1 on, and more than the gap), and behind the last one, as the
// chapter's words say.
func ahead(place, boxes, left int, justify uint8) int {
	switch justify {
	case atEnd:
		if place == 0 {
			return left
		}
	case atMiddle:
		if place == 0 && left < 0 {
			return -(-left / 2)
		}
		if place == 0 {
			return left / 2
		}
	case between:
		if boxes >= 2 && left > 0 && place > 0 && place < boxes {
			return equalShare(left, boxes-1, place-1)
		}
	case evenly:
		if left > 0 {
			return equalShare(left, boxes+1, place)
		}
	}
	return 0
}

// equalShare tells the share of one of so many that are alike: all lose the
// same, so what is left over goes to the first ones.
func equalShare(total, many, which int) int {
	share := 0
	for share*many+which < total {
		step := max((total-share*many-which)/many, 1)
		share += step
	}
	return share
}

// byHand tells where boxes begin, or the error, by the chapter's words.
func byHand(outer []int, h how) ([]int, api.Errno) {
	if len(outer) > maxNodes || h.gap < 0 || h.room < 0 || !slices.Contains(alongWays, h.justify) {
		return nil, 2
	}
	for _, n := range append([]int{h.gap, h.room}, outer...) {
		if !isLength(n) {
			return nil, 10
		}
	}
	left := leftBeside(outer, h.gap, h.room)
	if !isLength(left) {
		return nil, 10
	}
	begins := make([]int, len(outer))
	for i := range outer {
		begins[i] = together(outer[:i]) + i*h.gap
		for place := range i + 1 {
			begins[i] += ahead(place, len(outer), left, h.justify)
		}
		if h.back {
			begins[i] = h.room - (begins[i] + outer[i])
		}
	}
	for _, n := range begins {
		if !isLength(n) {
			return nil, 10
		}
	}
	return begins, 0
}

// crossByHand tells where a box begins across its line, or the error.
func crossByHand(outer, room int, align uint8) (int, api.Errno) {
	if room < 0 || !slices.Contains(acrossWays, align) {
		return 0, 2
	}
	if !isLength(outer) || !isLength(room) {
		return 0, 10
	}
	begin := 0
	switch left := room - outer; {
	case align == atEnd:
		begin = left
	case align == atMiddle && left < 0:
		begin = -(-left / 2)
	case align == atMiddle:
		begin = left / 2
	}
	if !isLength(begin) {
		return 0, 10
	}
	return begin, 0
}

// short cuts long rows off, for telling.
func short(l []int) []int { return l[:min(len(l), 30)] }

// check holds what is told of boxes against the chapter's words, asks that the
// row of them stays, and tells the error.
func check(t *testing.T, outer []int, h how) api.Errno {
	t.Helper()
	row := slices.Clone(outer)
	got, e := flex.Main(row, h.gap, h.room, h.justify, h.back)
	want, wantE := byHand(outer, h)
	if e != wantE || !slices.Equal(got, want) {
		t.Fatalf("%d boxes, %v, by %v: %v, error %d, not %v, error %d", len(outer), short(outer), h, short(got), e, short(want), wantE)
	}
	if !slices.Equal(row, outer) {
		t.Fatalf("%v by %v made the row %v", short(outer), h, short(row))
	}
	return e
}

// checkTold holds what is told of boxes against what is written.
func checkTold(t *testing.T, outer string, h how, want string, wantE api.Errno) {
	t.Helper()
	got, e := flex.Main(numbers(outer), h.gap, h.room, h.justify, h.back)
	if !slices.Equal(got, numbers(want)) || e != wantE {
		t.Errorf("%s by %v: %v, error %d, not %s, error %d", outer, h, got, e, want, wantE)
	}
	check(t, numbers(outer), h)
}

// checkCross holds what is told of a box across its line against the chapter's
// words, and tells the error.
func checkCross(t *testing.T, outer, room int, align uint8) api.Errno {
	t.Helper()
	got, e := flex.Cross(outer, room, align)
	if want, wantE := crossByHand(outer, room, align); got != want || e != wantE {
		t.Fatalf("%d in %d, align %d: %d, error %d, not %d, error %d", outer, room, align, got, e, want, wantE)
	}
	return e
}

// checkCrossTold holds what is told of a box across its line against what is
// written.
func checkCrossTold(t *testing.T, outer, room string, align uint8, want string, wantE api.Errno) {
	t.Helper()
	if got, e := flex.Cross(number(outer), number(room), align); got != number(want) || e != wantE {
		t.Errorf("%s in %s, align %d: %d, error %d, not %s, error %d", outer, room, align, got, e, want, wantE)
	}
	checkCross(t, number(outer), number(room), align)
}

// listsOf goes over all lists of so many of these numbers.
func listsOf(alphabet []int, many int, do func(l []int)) {
	l := make([]int, many)
	var from func(at int)
	from = func(at int) {
		if at == many {
			do(l)
			return
		}
		for _, x := range alphabet {
			l[at] = x
			from(at + 1)
		}
	}
	from(0)
}

// eachWay goes over all ways to stand along a line, forwards and backwards.
func eachWay(gap, room int, do func(h how)) {
	for _, justify := range alongWays {
		for _, back := range bothTurns {
			do(how{gap, room, justify, back})
		}
	}
}

// bySeed tells sizes up to a most one, some of them below 0 if they may be.
func bySeed(r *rand.Rand, many, most int, below bool) []int {
	l := make([]int, many)
	for i := range l {
		l[i] = r.Intn(most+1) >> r.Intn(8)
		if below && r.Intn(4) == 0 {
			l[i] = -l[i]
		}
	}
	return l
}

// roomBySeed tells a room for these boxes, about what they come to.
func roomBySeed(r *rand.Rand, outer []int, gap int) int {
	n := max(-leftBeside(outer, gap, 0), 0)
	switch r.Intn(6) {
	case 0: // they just fill it, or nearly so
		n += r.Intn(7) - 3
	case 1:
		n = r.Intn(1 + n)
	case 2: // as few are left as there are places
		n += r.Intn(2*len(outer) + 3)
	default:
		n = n/2 + r.Intn(2+2*n)
	}
	return min(max(n, 0), maxCoord)
}

// goOver goes over boxes of all kinds, and how they stand, of which none is
// refused.
func goOver(do func(outer []int, h how)) {
	for many := range 5 {
		listsOf([]int{-3, 0, 1, 2, 5}, many, func(outer []int) {
			for _, gap := range []int{0, 1, 4} {
				for room := range 24 {
					eachWay(gap, room, func(h how) { do(outer, h) })
				}
			}
		})
	}
	r := rand.New(rand.NewSource(1))
	for i := range 30000 {
		most := 1 + r.Intn(1<<(1+r.Intn(30)))
		outer := bySeed(r, r.Intn(2+r.Intn(30)), most, i%2 == 0)
		gap := r.Intn(1+most) >> (8 * (i % 8))
		do(outer, how{gap, roomBySeed(r, outer, gap), alongWays[r.Intn(5)], r.Intn(2) == 0})
	}
}
