package lines_test

import (
	"math/rand"
	"slices"
	"strconv"
	"strings"
	"testing"

	"windowpane/api"
	"windowpane/lines"
)

const (
	maxCoord = 1 << 40
	maxFrags = 2048

	aWord  = 0
	aBlank = 1
	anEnd  = 2
	aBox   = 3
)

// items reads items as the chapter writes them: w3 a word of the width 3, _1 a
// blank, / a line's end, b2 a box; M is the greatest length, -M the least one.
func items(s string) []lines.Item {
	var l []lines.Item
	for _, x := range strings.Fields(s) {
		kind, width := strings.IndexByte("w_/b", x[0]), 0
		switch x[1:] {
		case "":
		case "M":
			width = maxCoord
		case "-M":
			width = -maxCoord
		default:
			n, err := strconv.Atoi(x[1:])
			if err != nil {
				panic(x)
			}
			width = n
		}
		if kind < 0 {
			panic(x)
		}
		l = append(l, lines.Item{Kind: uint8(kind), Width: width})
	}
	return l
}

// told writes lines as the chapter does.
func told(l []lines.Line) string {
	row := make([]string, len(l))
	for i, x := range l {
		row[i] = strconv.Itoa(x.From) + "-" + strconv.Itoa(x.To) + " " + strconv.Itoa(x.Width)
	}
	return strings.Join(row, "; ")
}

// part is a cluster, or a line's end, with the places that it has.
type part struct {
	isEnd    bool
	from, to int
}

// partsByHand tells what there is but blanks: these are passed over wherever
// they don't stand within a line.
func partsByHand(l []lines.Item) []part {
	var parts []part
	for i, x := range l {
		last := len(parts) - 1
		switch {
		case x.Kind == aBlank:
		case x.Kind == aWord && i > 0 && l[i-1].Kind == aWord:
			parts[last].to++
		default:
			parts = append(parts, part{isEnd: x.Kind == anEnd, from: i, to: i + 1})
		}
	}
	return parts
}

func widthByHand(l []lines.Item) int {
	width := 0
	for _, x := range l {
		width += x.Width
	}
	return width
}

// linesByHand tells the lines of items, by the chapter's words, whether or not
// there is an error.
func linesByHand(l []lines.Item, width int) []lines.Line {
	var came []lines.Line
	for parts := partsByHand(l); len(parts) > 0; {
		from, to := parts[0].from, parts[0].from
		if !parts[0].isEnd {
			to = parts[0].to
			parts = parts[1:]
			for len(parts) > 0 && !parts[0].isEnd && widthByHand(l[from:parts[0].to]) <= width {
				to = parts[0].to
				parts = parts[1:]
			}
		}
		came = append(came, lines.Line{From: from, To: to, Width: widthByHand(l[from:to])})
		if len(parts) > 0 && parts[0].isEnd {
			parts = parts[1:]
		}
	}
	return came
}

func isLength(n int) bool { return -maxCoord <= n && n <= maxCoord }

func wrongByHand(l []lines.Item, width int) api.Errno {
	if len(l) > maxFrags || width < 0 || slices.ContainsFunc(l, func(x lines.Item) bool { return x.Kind > 3 }) {
		return 2
	}
	if !isLength(width) || slices.ContainsFunc(l, func(x lines.Item) bool { return !isLength(x.Width) }) {
		return 10
	}
	if slices.ContainsFunc(linesByHand(l, width), func(x lines.Line) bool { return !isLength(x.Width) }) {
		return 10
	}
	return 0
}

// checkFill holds what is told of items against the chapter's words.
func checkFill(t *testing.T, l []lines.Item, width int) {
	t.Helper()
	got, e := lines.Fill(l, width)
	if want := wrongByHand(l, width); e != want {
		t.Errorf("%v by %d: error %d, not %d", short(l), width, e, want)
		return
	}
	if e != api.OK {
		if len(got) > 0 {
			t.Errorf("%v by %d: %s beside the error %d", short(l), width, told(got), e)
		}
		return
	}
	if want := linesByHand(l, width); !slices.Equal(got, want) {
		t.Errorf("%v by %d: %s, not %s", short(l), width, told(got), told(want))
	}
}

// short cuts long lists off, for telling.
func short(l []lines.Item) []lines.Item { return l[:min(len(l), 40)] }

// listsOf goes over all lists of so many of these items.
func listsOf(alphabet []lines.Item, many int, do func(l []lines.Item)) {
	l := make([]lines.Item, many)
	var from func(at int)
	from = func(at int) {
		if at == many {
			do(l)
			return
		}
		for _, x := range alphabet {
			l[at] = x
			from(at + 1)
		}
	}
	from(0)
}

// listBySeed tells items of all kinds, of which some come more often than
// others; those of widths below 0 only if that is asked for.
func listBySeed(r *rand.Rand, many, most int, below bool) []lines.Item {
	kinds := []uint8{aWord, aBlank, anEnd, aBox}
	for range r.Intn(12) {
		kinds = append(kinds, kinds[r.Intn(4)])
	}
	l := make([]lines.Item, many)
	for i := range l {
		l[i] = lines.Item{Kind: kinds[r.Intn(len(kinds))], Width: r.Intn(most + 1)}
		if below && r.Intn(3) == 0 {
			l[i].Width = -l[i].Width
		}
	}
	return l
}

// goOver goes over items of all kinds, and widths, of which no list, and no
// line, is refused.
func goOver(do func(l []lines.Item, width int)) {
	for many := range 7 {
		listsOf(items("w1 w2 _1 / b2 b3"), many, func(l []lines.Item) {
			for width := range 7 {
				do(l, width)
			}
		})
	}
	for many := range 6 {
		listsOf(items("w2 w-1 _1 _-2 / b2 b-3"), many, func(l []lines.Item) {
			for width := range 5 {
				do(l, width)
			}
		})
	}
	r := rand.New(rand.NewSource(1))
	for i := range 20000 {
		most := 1 + r.Intn(20)
		do(listBySeed(r, r.Intn(60), most, i%2 == 0), r.Intn(6*most))
	}
}
