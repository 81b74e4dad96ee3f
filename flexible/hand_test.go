package flexible_test

import (
	"math"
	"math/big"
	"math/rand"
	"slices"
	"strconv"
	"strings"
	"testing"

	"windowpane/api"
	"windowpane/flexible"
)

const (
	maxCoord = 1 << 40
	maxFrags = 2048
	maxGrow  = 1000
)

// noLengths are numbers that are no lengths, just so, and as far from them as
// an int is.
var noLengths = []int{maxCoord + 1, -maxCoord - 1, 1 << 41, -1 << 41, 1 << 62, math.MaxInt - 1, math.MaxInt, math.MinInt + 1, math.MinInt}

// number reads a number; M is the greatest length, -M the least one, M+1 and
// -M-1 are just none, G and L are the greatest and the least int.
func number(s string) int {
	switch s {
	case "M":
		return maxCoord
	case "-M":
		return -maxCoord
	case "M-1":
		return maxCoord - 1
	case "-M+1":
		return 1 - maxCoord
	case "M+1":
		return maxCoord + 1
	case "-M-1":
		return -maxCoord - 1
	case "G":
		return math.MaxInt
	case "L":
		return math.MinInt
	}
	n, err := strconv.Atoi(s)
	if err != nil {
		panic(s)
	}
	return n
}

// numbers reads a row of numbers.
func numbers(s string) []int {
	var row []int
	for _, word := range strings.Fields(s) {
		row = append(row, number(word))
	}
	return row
}

// item reads a box: its base, Grow and Shrink, as in 10/1/1; behind these may
// stand its least (>), else 0, its most (<), else 1000, and its Outer (@), else
// 0.
func item(word string) flexible.Item {
	x := flexible.Item{Most: 1000}
	marks := map[byte]*int{'>': &x.Least, '<': &x.Most, '@': &x.Outer}
	for at := strings.LastIndexAny(word, "><@"); at >= 0; at = strings.LastIndexAny(word, "><@") {
		*marks[word[at]] = number(word[at+1:])
		word = word[:at]
	}
	l := strings.Split(word, "/")
	if len(l) != 3 {
		panic(word)
	}
	x.Base, x.Grow, x.Shrink = number(l[0]), number(l[1]), number(l[2])
	return x
}

// items reads a row of boxes.
func items(s string) []flexible.Item {
	var row []flexible.Item
	for _, word := range strings.Fields(s) {
		row = append(row, item(word))
	}
	return row
}

// how is all that boxes are settled by, but for themselves.
type how struct{ gap, room int }

// course is what is to come of boxes, and how: the error, or their sizes,
// whether they grow, in how many rounds they were settled, and in how many of
// these what is left was 0, and what goals were changed to came to less in all,
// to more, to nothing, though some were changed.
type course struct {
	e                            api.Errno
	sizes                        []int
	grows                        bool
	rounds                       int
	nothing, less, more, justOut int
}

func isLength(n int) bool { return -maxCoord <= n && n <= maxCoord }

// errorByHand tells the error of what is handed in.
func errorByHand(l []flexible.Item, h how) api.Errno {
	if len(l) > maxFrags || h.gap < 0 || h.room < -1 {
		return 2
	}
	for _, x := range l {
		if x.Base < 0 || x.Least < 0 || x.Most < 0 || x.Grow < 0 || x.Grow > maxGrow || x.Shrink < 0 || x.Shrink > maxGrow {
			return 2
		}
	}
	if !isLength(h.gap) || !isLength(h.room) {
		return 10
	}
	for _, x := range l {
		for _, n := range []int{x.Base, x.Least, x.Most, x.Outer, x.Grow, x.Shrink} {
			if !isLength(n) {
				return 10
			}
		}
	}
	return 0
}

// within brings a number to the most of a box from above, then to its least
// from below.
func within(n int, x flexible.Item) int {
	if n > x.Most {
		n = x.Most
	}
	if n < x.Least {
		n = x.Least
	}
	return n
}

// around tells what gaps and Outers come to.
func around(l []flexible.Item, h how) int {
	n := 0
	for i, x := range l {
		if i > 0 {
			n += h.gap
		}
		n += x.Outer
	}
	return n
}

// together tells what numbers come to.
func together(l []int) int {
	n := 0
	for _, x := range l {
		n += x
	}
	return n
}

// sharesByHand gives a total out to weights, as chapter 1 says.
func sharesByHand(total int, weights []int) []int {
	shares := make([]int, len(weights))
	sum := together(weights)
	if sum == 0 {
		return shares
	}
	if total < 0 {
		for i, share := range sharesByHand(-total, weights) {
			shares[i] = -share
		}
		return shares
	}
	lost := make([]int, len(weights))
	for i, w := range weights {
		product := new(big.Int).Mul(big.NewInt(int64(total)), big.NewInt(int64(w)))
		share, rest := product.DivMod(product, big.NewInt(int64(sum)), new(big.Int))
		shares[i], lost[i] = int(share.Int64()), int(rest.Int64())
	}
	for range total - together(shares) {
		i := slices.Index(lost, slices.Max(lost))
		shares[i]++
		lost[i] = -1
	}
	return shares
}

// byHand tells what is to come of boxes, by the chapter's words.
func byHand(l []flexible.Item, h how) course {
	if e := errorByHand(l, h); e != 0 {
		return course{e: e}
	}
	c := course{sizes: make([]int, len(l))}
	for i, x := range l {
		c.sizes[i] = within(x.Base, x)
	}
	if h.room == -1 {
		return c
	}
	c.grows = together(c.sizes)+around(l, h) < h.room
	var others []int
	for i, x := range l {
		atOnce := x.Shrink == 0 || x.Base < c.sizes[i]
		if c.grows {
			atOnce = x.Grow == 0 || x.Base > c.sizes[i]
		}
		if !atOnce {
			others = append(others, i)
		}
	}
	for len(others) > 0 {
		if others = c.round(l, h, others); c.e != 0 {
			return course{e: c.e}
		}
	}
	return c
}

// round settles some of the others, and tells which are to be settled still.
func (c *course) round(l []flexible.Item, h how, others []int) []int {
	c.rounds++
	left := h.room - around(l, h) - together(c.sizes)
	weights := make([]int, len(others))
	for k, i := range others {
		left += c.sizes[i] - l[i].Base
		weights[k] = l[i].Shrink * l[i].Base
		if c.grows {
			weights[k] = l[i].Grow
		}
	}
	if !isLength(left) {
		c.e = 10
		return nil
	}
	if left == 0 {
		c.nothing++
	}
	got := make([]int, len(others))
	if c.grows && left > 0 || !c.grows && left < 0 {
		got = sharesByHand(left, weights)
	}
	changes, all := make([]int, len(others)), 0
	for k, i := range others {
		goal := l[i].Base + got[k]
		changes[k] = within(goal, l[i]) - goal
		all += changes[k]
	}
	c.count(all, changes)
	var still []int
	for k, i := range others {
		if all > 0 && changes[k] <= 0 || all < 0 && changes[k] >= 0 {
			still = append(still, i)
		} else {
			c.sizes[i] = l[i].Base + got[k] + changes[k]
		}
	}
	return still
}

// count notes what changed in all.
func (c *course) count(all int, changes []int) {
	switch {
	case all < 0:
		c.less++
	case all > 0:
		c.more++
	case slices.Max(changes) > 0:
		c.justOut++
	}
}

// short cuts long rows off, for telling.
func short[T any](l []T) []T { return l[:min(len(l), 30)] }

// check holds what is told of boxes against the chapter's words, asks that the
// row of them stays, and tells what was to come.
func check(t *testing.T, l []flexible.Item, h how) course {
	t.Helper()
	row := slices.Clone(l)
	got, e := flexible.Sizes(row, h.gap, h.room)
	want := byHand(l, h)
	if e != want.e || !slices.Equal(got, want.sizes) {
		t.Fatalf("%d boxes, %+v, by %v: %v, error %d, not %v, error %d", len(l), short(l), h, short(got), e, short(want.sizes), want.e)
	}
	if !slices.Equal(row, l) {
		t.Fatalf("%+v by %v made the row %+v", short(l), h, short(row))
	}
	return want
}

// checkTold holds what is told of boxes against what is written.
func checkTold(t *testing.T, l string, h how, want string, wantE api.Errno) {
	t.Helper()
	got, e := flexible.Sizes(items(l), h.gap, h.room)
	if !slices.Equal(got, numbers(want)) || e != wantE {
		t.Errorf("%s by %v: %v, error %d, not %s, error %d", l, h, got, e, want, wantE)
	}
	check(t, items(l), h)
}

// listsOf goes over all lists of so many of these boxes.
func listsOf(alphabet []flexible.Item, many int, do func(l []flexible.Item)) {
	l := make([]flexible.Item, many)
	var from func(at int)
	from = func(at int) {
		if at == many {
			do(l)
			return
		}
		for _, x := range alphabet {
			l[at] = x
			from(at + 1)
		}
	}
	from(0)
}

// bySeed tells boxes of numbers up to a most one.
func bySeed(r *rand.Rand, many, most int) []flexible.Item {
	some := func() int { return r.Intn(most+1) >> r.Intn(8) }
	l := make([]flexible.Item, many)
	for i := range l {
		x := flexible.Item{Base: some(), Most: maxCoord, Grow: r.Intn(1 + maxGrow>>r.Intn(11)), Shrink: r.Intn(1 + maxGrow>>r.Intn(11))}
		if r.Intn(2) == 0 {
			x.Least = some()
		}
		if r.Intn(2) == 0 {
			x.Most = some()
		}
		if r.Intn(4) == 0 {
			x.Outer = some() - some()
		}
		l[i] = x
	}
	return l
}

// roomBySeed tells a room for these boxes, about what they come to.
func roomBySeed(r *rand.Rand, l []flexible.Item, gap int) int {
	n := around(l, how{gap: gap})
	for _, x := range l {
		n += within(x.Base, x)
	}
	switch r.Intn(8) {
	case 0:
		return min(max(n, 0), maxCoord) // they just fill it
	case 1:
		return r.Intn(1 + min(max(n, 0), maxCoord)/8)
	}
	return min(max(n/2+r.Intn(1+max(n, 0)), 0), maxCoord)
}

// goOver goes over boxes of all kinds, and what they are settled by, of which
// none is refused.
func goOver(do func(l []flexible.Item, h how)) {
	alphabet := items("0/0/0 2/1/0 2/0/1 0/1/1 3/1/1 5/2/3 1/1/1>3 4/1/2<2 3/2/1>2<4 2/1/2>4<1 3/1/1@2 4/3/1@-3")
	for many := range 4 {
		listsOf(alphabet, many, func(l []flexible.Item) {
			for room := -1; room < 19; room++ {
				do(l, how{0, room})
			}
			do(l, how{1, 2 * many})
			do(l, how{3, 7 * many})
		})
	}
	listsOf(items("0/1/1>3 3/1/1 4/2/3<6 6/3/1>5<7 5/1/2<3"), 5, func(l []flexible.Item) {
		for _, room := range []int{0, 9, 14, 20, 23, 26, 34} {
			do(l, how{0, room})
		}
	})
	r := rand.New(rand.NewSource(1))
	for i := range 40000 {
		most := 1 + r.Intn(1<<(1+r.Intn(33)))
		l := bySeed(r, r.Intn(2+r.Intn(30)), most)
		gap := r.Intn(1+most) >> (8 * (i % 8))
		do(l, how{gap, roomBySeed(r, l, gap)})
	}
}
