package lines_test

import (
	"slices"
	"testing"

	"windowpane/api"
	"windowpane/lines"
)

// mustFill tells the lines of items of which none is refused.
func mustFill(t *testing.T, l []lines.Item, width int) []lines.Line {
	t.Helper()
	came, e := lines.Fill(l, width)
	if e != api.OK {
		t.Fatalf("%v by %d: error %d", l, width, e)
	}
	return came
}

func isText(x lines.Item) bool { return x.Kind == aWord || x.Kind == aBox }

// P10.3: each word and box is in just one line; lines stand one behind the
// other; one that isn't empty begins and ends with a word or a box; none has a
// line's end; an empty one stands at one. A Width is that of the line's items.
func TestAllAreThere(t *testing.T) {
	goOver(func(l []lines.Item, width int) {
		in := make([]int, len(l))
		behind := 0
		for _, line := range mustFill(t, l, width) {
			if line.From < behind || line.To < line.From || line.To > len(l) {
				t.Fatalf("%v by %d: %v behind %d", l, width, line, behind)
			}
			behind = line.To
			has := l[line.From:line.To]
			if line.Width != widthByHand(has) {
				t.Fatalf("%v by %d: %v", l, width, line)
			}
			if len(has) == 0 {
				if l[line.From].Kind != anEnd {
					t.Fatalf("%v by %d: empty at %d", l, width, line.From)
				}
				behind++
				continue
			}
			if !isText(has[0]) || !isText(has[len(has)-1]) {
				t.Fatalf("%v by %d: %v", l, width, line)
			}
			for at := line.From; at < line.To; at++ {
				in[at]++
				if l[at].Kind == anEnd {
					t.Fatalf("%v by %d: %v has the end at %d", l, width, line, at)
				}
			}
		}
		for at, x := range l {
			if isText(x) && in[at] != 1 {
				t.Fatalf("%v by %d: %d is in %d lines", l, width, at, in[at])
			}
		}
	})
}

// P10.4: a line that has more than one cluster is no wider than asked for;
// with the next cluster, and what is between, each one would be, unless a
// line's end is between.
func TestAsLongAsCanBe(t *testing.T) {
	goOver(func(l []lines.Item, width int) {
		for _, line := range mustFill(t, l, width) {
			if line.From == line.To {
				continue
			}
			if line.Width > width && len(partsByHand(l[line.From:line.To])) > 1 {
				t.Fatalf("%v by %d: %v is too wide", l, width, line)
			}
			rest := partsByHand(l[line.To:])
			if len(rest) == 0 || rest[0].isEnd {
				continue
			}
			if l[line.To-1].Kind == aWord && l[line.To].Kind == aWord {
				t.Fatalf("%v by %d: %v ends within a cluster", l, width, line)
			}
			if widthByHand(l[line.From:line.To+rest[0].to]) <= width {
				t.Fatalf("%v by %d: %v is too short", l, width, line)
			}
		}
	})
}

// P10.5: of items with no width below 0 a greater width never needs more lines.
func TestWiderNeedsNoMore(t *testing.T) {
	goOver(func(l []lines.Item, width int) {
		if hasBelow(l) {
			return
		}
		many := len(mustFill(t, l, width))
		for _, more := range []int{1, 2, 3, 5, 100} {
			if got := len(mustFill(t, l, width+more)); got > many {
				t.Fatalf("%v: %d lines by %d, %d by %d", l, many, width, got, width+more)
			}
		}
	})
}

// P10.5: where all fits, lines end at lines' ends alone: there are as many as
// there are ends, and one more if something is behind the last one.
func TestWhereAllFits(t *testing.T) {
	goOver(func(l []lines.Item, width int) {
		if hasBelow(l) {
			return
		}
		want, behind := 0, false
		for _, x := range l {
			if x.Kind == anEnd {
				want++
			}
			behind = isText(x) || behind && x.Kind != anEnd
		}
		if behind {
			want++
		}
		all := widthByHand(l)
		for _, wide := range []int{all, all + 1, maxCoord} {
			came := mustFill(t, l, wide)
			if len(came) != want {
				t.Fatalf("%v by %d: %s, not %d lines", l, wide, told(came), want)
			}
			for _, line := range came[:max(0, len(came)-1)] {
				if rest := partsByHand(l[line.To:]); !rest[0].isEnd {
					t.Fatalf("%v by %d: %v ends at no line's end", l, wide, line)
				}
			}
		}
	})
}

// P10.6: behind a word or a box and a line's end (and blanks between), lines
// are filled as if they began there, and ahead of it as if nothing came.
func TestApart(t *testing.T) {
	goOver(func(l []lines.Item, width int) {
		came := mustFill(t, l, width)
		last := uint8(anEnd)
		for at, x := range l {
			if x.Kind == anEnd && last != anEnd {
				want := mustFill(t, l[:at], width)
				for _, line := range mustFill(t, l[at+1:], width) {
					line.From += at + 1
					line.To += at + 1
					want = append(want, line)
				}
				if !slices.Equal(came, want) {
					t.Fatalf("%v by %d: %s, apart at %d %s", l, width, told(came), at, told(want))
				}
			}
			if x.Kind != aBlank {
				last = x.Kind
			}
		}
	})
}

func hasBelow(l []lines.Item) bool {
	return slices.ContainsFunc(l, func(x lines.Item) bool { return x.Width < 0 })
}
