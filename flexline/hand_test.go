package flexline_test

import (
	"math"
	"math/rand"
	"slices"
	"strconv"
	"strings"
	"testing"

	"windowpane/api"
	"windowpane/flexline"
)

const (
	maxCoord = 1 << 40
	maxFrags = 2048
)

// number reads a number; M is the greatest length, -M the least one, M+1 and
// -M-1 are just none, G and L are the greatest and the least int.
func number(s string) int {
	switch s {
	case "M":
		return maxCoord
	case "-M":
		return -maxCoord
	case "M-1":
		return maxCoord - 1
	case "-M+1":
		return 1 - maxCoord
	case "M+1":
		return maxCoord + 1
	case "-M-1":
		return -maxCoord - 1
	case "G":
		return math.MaxInt
	case "L":
		return math.MinInt
	}
	n, err := strconv.Atoi(s)
	if err != nil {
		panic(s)
	}
	return n
}

// numbers reads a row of numbers.
func numbers(s string) []int {
	var row []int
	for _, x := range strings.Fields(s) {
		row = append(row, number(x))
	}
	return row
}

// told writes lines as the chapter does.
func told(l []flexline.Line) string {
	row := make([]string, len(l))
	for i, line := range l {
		row[i] = strconv.Itoa(line.From) + "-" + strconv.Itoa(line.To)
	}
	return strings.Join(row, ", ")
}

// short cuts long rows off, for telling.
func short(l []int) []int { return l[:min(len(l), 30)] }

// how is all that boxes are split by, but for their sizes.
type how struct {
	gap, room int
	wrap      bool
}

// orderByHand puts each place behind as many others as there are that stand
// ahead of it: of lesser Orders, and of equal ones lesser places.
func orderByHand(l []int) []int {
	places := make([]int, len(l))
	for place, order := range l {
		ahead := 0
		for other, otherOrder := range l {
			if otherOrder < order || otherOrder == order && other < place {
				ahead++
			}
		}
		places[ahead] = place
	}
	return places
}

// longByHand tells how long boxes are in one line.
func longByHand(sizes []int, gap int) int {
	long := 0
	for i, size := range sizes {
		if i > 0 {
			long += gap
		}
		long += size
	}
	return long
}

// linesByHand tells the lines of boxes, by the chapter's words, whether or not
// there is an error: a box begins a line, unless it, and all from the line's
// first one on, are at most the room together.
func linesByHand(sizes []int, h how) []flexline.Line {
	var l []flexline.Line
	for at := range sizes {
		last := len(l) - 1
		switch {
		case at == 0:
			l = append(l, flexline.Line{From: 0, To: 1})
		case !h.wrap, h.room == -1, longByHand(sizes[l[last].From:at+1], h.gap) <= h.room:
			l[last].To = at + 1
		default:
			l = append(l, flexline.Line{From: at, To: at + 1})
		}
	}
	return l
}

func isLength(n int) bool { return -maxCoord <= n && n <= maxCoord }

// byHand tells what is to come of it, by the chapter's words.
func byHand(sizes []int, h how) ([]flexline.Line, api.Errno) {
	if len(sizes) > maxFrags || h.gap < 0 || h.room < -1 {
		return nil, 2
	}
	for _, n := range append([]int{h.gap, h.room}, sizes...) {
		if !isLength(n) {
			return nil, 10
		}
	}
	return linesByHand(sizes, h), 0
}

// checkOrder holds what is told of Orders against the chapter's words, and asks
// that the row of them stays.
func checkOrder(t *testing.T, l []int) {
	t.Helper()
	row := slices.Clone(l)
	got := flexline.Order(row)
	if want := orderByHand(l); !slices.Equal(got, want) {
		t.Fatalf("%d Orders, %v: %v, not %v", len(l), short(l), short(got), short(want))
	}
	if !slices.Equal(row, l) {
		t.Fatalf("%v made the row %v", short(l), short(row))
	}
}

// check holds what is told of sizes against the chapter's words, asks that the
// row of them stays, and tells the error.
func check(t *testing.T, sizes []int, h how) api.Errno {
	t.Helper()
	row := slices.Clone(sizes)
	got, e := flexline.Split(row, h.gap, h.room, h.wrap)
	want, wantE := byHand(sizes, h)
	if e != wantE || !slices.Equal(got, want) {
		t.Fatalf("%d sizes, %v, by %v: %s, error %d, not %s, error %d", len(sizes), short(sizes), h, told(got), e, told(want), wantE)
	}
	if !slices.Equal(row, sizes) {
		t.Fatalf("%v by %v made the row %v", short(sizes), h, short(row))
	}
	return e
}

// checkTold holds what is told of sizes against what is written.
func checkTold(t *testing.T, sizes string, h how, want string, wantE api.Errno) {
	t.Helper()
	got, e := flexline.Split(numbers(sizes), h.gap, h.room, h.wrap)
	if told(got) != want || e != wantE {
		t.Errorf("%s by %v: %s, error %d, not %s, error %d", sizes, h, told(got), e, want, wantE)
	}
	check(t, numbers(sizes), h)
}

// listsOf goes over all lists of so many of these numbers.
func listsOf(alphabet []int, many int, do func(l []int)) {
	l := make([]int, many)
	var from func(at int)
	from = func(at int) {
		if at == many {
			do(l)
			return
		}
		for _, n := range alphabet {
			l[at] = n
			from(at + 1)
		}
	}
	from(0)
}

// bySeed tells numbers from a least to a most one.
func bySeed(r *rand.Rand, many, least, most int) []int {
	l := make([]int, many)
	for i := range l {
		l[i] = least + r.Intn(most-least+1)
	}
	return l
}

// goOverOrders goes over Orders of all kinds.
func goOverOrders(do func(l []int)) {
	for many := range 7 {
		listsOf(numbers("0 -1 7 G L"), many, do)
	}
	r := rand.New(rand.NewSource(1))
	for i := range 3000 {
		most := 1 + r.Intn(1<<r.Intn(20))
		do(bySeed(r, r.Intn(200), -most*(i%2), most))
	}
}

// goOver goes over sizes of all kinds, and what they are split by, of which
// none is refused.
func goOver(do func(sizes []int, h how)) {
	for many := range 6 {
		listsOf(numbers("0 1 2 3 5 -2"), many, func(sizes []int) {
			for gap := range 3 {
				for room := -1; room < 9; room++ {
					do(sizes, how{gap, room, true})
				}
				do(sizes, how{gap, many, false})
			}
		})
	}
	r := rand.New(rand.NewSource(2))
	for i := range 20000 {
		most := 1 + r.Intn(1<<r.Intn(30))
		least := []int{0, 1, -most, -most / 8}[i%4]
		do(bySeed(r, r.Intn(60), least, most), how{r.Intn(1 + most>>r.Intn(30)), r.Intn(6*most) - 1, i%16 != 5})
	}
}

// noLengths are numbers that are no lengths, just so, and as far from them as
// an int is.
var noLengths = []int{maxCoord + 1, -maxCoord - 1, 1 << 41, -1 << 41, 1 << 62, math.MaxInt - 1, math.MaxInt, math.MinInt + 1, math.MinInt}
