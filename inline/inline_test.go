package inline_test

import (
	"math"
	"math/rand"
	"slices"
	"testing"

	"windowpane/api"
	"windowpane/inline"
)

// P11.1: all rows of the chapter's examples.
func TestExamples(t *testing.T) {
	for _, x := range []struct {
		l     string
		lines uint8
		want  string
		e     api.Errno
	}{
		{"", atStart, "; 16; 12", 0},
		{"base 10 20 0 base 5 3 9", atStart, "0 0, 10 17; 29; 20", 0},
		{"top 10 30 0 bottom 10 5 5", atEnd, "80 0, 90 20; 30; 12", 0},
		{"base 11 1 1", atMiddle, "44 11; 16; 12", 0},
		{"base 101 1 1", atEnd, "0 11; 16; 12", 0},
		{"base 101 1 1", stretch, nothing, 2},
	} {
		checkTold(t, asked{spots(x.l), 12, 4, 100, x.lines}, x.want, x.e)
	}
}

// ordinary are spots, and what is told of them, by hand, in lines of a font
// that goes 12 up and 4 down: ordinary ones, and the edges that the chapter
// names.
var ordinary = []struct {
	l     string
	width int
	lines uint8
	want  string
}{
	// no spots at all, in whatever line
	{"", 0, atStart, "; 16; 12"},
	{"", 100, atEnd, "; 16; 12"},
	{"", 100, atMiddle, "; 16; 12"},
	{"", -100, atEnd, "; 16; 12"},
	// one spot
	{"base 10 12 4", 100, atStart, "0 0; 16; 12"},
	{"base 10 12 4", 100, atEnd, "90 0; 16; 12"},
	{"base 10 12 4", 100, atMiddle, "45 0; 16; 12"},
	{"top 10 5 2", 100, atEnd, "90 0; 16; 12"},
	{"bottom 10 5 2", 100, atEnd, "90 9; 16; 12"},
	// spots of each Align by turns
	{"base 10 20 2 top 5 3 3 bottom 7 4 9 base 1 1 8", 100, atStart, "0 0, 10 0, 15 15, 22 19; 28; 20"},
	{"base 10 20 2 top 5 3 3 bottom 7 4 9 base 1 1 8", 100, atEnd, "77 0, 87 0, 92 15, 99 19; 28; 20"},
	{"base 10 20 2 top 5 3 3 bottom 7 4 9 base 1 1 8", 100, atMiddle, "38 0, 48 0, 53 15, 60 19; 28; 20"},
	{"bottom 10 20 2 base 5 3 3 top 7 40 9 bottom 1 1 8", 100, atStart, "0 27, 10 9, 15 0, 22 40; 49; 12"},
	// spots on the base alone: higher than the font, deeper than it, both, none of both
	{"base 1 13 4", 9, atStart, "0 0; 17; 13"},
	{"base 1 12 5", 9, atStart, "0 0; 17; 12"},
	{"base 1 13 5", 9, atStart, "0 0; 18; 13"},
	{"base 1 11 3", 9, atStart, "0 1; 16; 12"},
	{"base 1 13 3", 9, atStart, "0 0; 17; 13"},
	{"base 1 11 5", 9, atStart, "0 1; 17; 12"},
	{"base 1 30 0 base 1 0 30", 9, atStart, "0 0, 1 30; 60; 30"},
	{"base 1 30 0 base 1 40 1 base 1 35 2", 9, atStart, "0 10, 1 0, 2 5; 44; 40"},
	{"base 1 0 9 base 1 0 7 base 1 0 8", 9, atStart, "0 12, 1 12, 2 12; 21; 12"},
	// others alone: taller than all else, just as tall, not as tall
	{"top 1 10 7", 9, atStart, "0 0; 17; 12"},
	{"top 1 10 6", 9, atStart, "0 0; 16; 12"},
	{"top 1 10 5", 9, atStart, "0 0; 16; 12"},
	{"bottom 1 10 7", 9, atStart, "0 0; 17; 12"},
	{"bottom 1 10 6", 9, atStart, "0 0; 16; 12"},
	{"bottom 1 10 5", 9, atStart, "0 1; 16; 12"},
	{"top 1 17 0", 9, atStart, "0 0; 17; 12"},
	{"top 1 0 17", 9, atStart, "0 0; 17; 12"},
	{"bottom 1 0 17", 9, atStart, "0 0; 17; 12"},
	{"bottom 1 17 0 top 1 0 20", 9, atStart, "0 3, 1 0; 20; 12"},
	// others beside such as stand on the base
	{"base 1 20 4 top 1 20 5", 9, atStart, "0 0, 1 0; 25; 20"},
	{"base 1 20 4 top 1 20 4", 9, atStart, "0 0, 1 0; 24; 20"},
	{"base 1 20 4 bottom 1 20 3", 9, atStart, "0 0, 1 1; 24; 20"},
	{"bottom 1 50 0 base 1 20 30 top 1 51 0", 9, atStart, "0 1, 1 0, 2 0; 51; 20"},
	// the width less than all spots together, just as much, more
	{"base 5 1 1 top 6 1 1", 10, atStart, "0 11, 5 0; 16; 12"},
	{"base 5 1 1 top 6 1 1", 10, atEnd, "0 11, 5 0; 16; 12"},
	{"base 5 1 1 top 6 1 1", 10, atMiddle, "0 11, 5 0; 16; 12"},
	{"base 5 1 1 top 6 1 1", 11, atEnd, "0 11, 5 0; 16; 12"},
	{"base 5 1 1 top 6 1 1", 11, atMiddle, "0 11, 5 0; 16; 12"},
	{"base 5 1 1 top 6 1 1", 12, atStart, "0 11, 5 0; 16; 12"},
	{"base 5 1 1 top 6 1 1", 12, atEnd, "1 11, 6 0; 16; 12"},
	{"base 5 1 1 top 6 1 1", 12, atMiddle, "0 11, 5 0; 16; 12"},
	{"base 5 1 1 top 6 1 1", 13, atMiddle, "1 11, 6 0; 16; 12"},
	{"base 5 1 1 top 6 1 1", 14, atMiddle, "1 11, 6 0; 16; 12"},
	{"base 5 1 1 top 6 1 1", 15, atMiddle, "2 11, 7 0; 16; 12"},
	// what is left is below 0, odd and even
	{"base 5 1 1", 4, atMiddle, "0 11; 16; 12"},
	{"base 5 1 1", 3, atMiddle, "0 11; 16; 12"},
	{"base 5 1 1", 2, atMiddle, "0 11; 16; 12"},
	{"base 5 1 1", 2, atEnd, "0 11; 16; 12"},
	{"base 5 1 1", -2, atMiddle, "0 11; 16; 12"},
	// widths of 0, and below 0
	{"base 0 1 1 top 0 1 1", 0, atEnd, "0 11, 0 0; 16; 12"},
	{"base 0 1 1 top 0 1 1", 5, atEnd, "5 11, 5 0; 16; 12"},
	{"base -5 1 1 base 2 1 1", 0, atStart, "0 11, -5 11; 16; 12"},
	{"base -5 1 1 base 2 1 1", 0, atEnd, "3 11, -2 11; 16; 12"},
	{"base -5 1 1 base 2 1 1", 0, atMiddle, "1 11, -4 11; 16; 12"},
	{"base -5 1 1 base 2 1 1", -2, atEnd, "1 11, -4 11; 16; 12"},
	{"base -5 1 1 base 2 1 1", -2, atMiddle, "0 11, -5 11; 16; 12"},
	{"base 9 1 1 base -7 1 1 base 1 1 1", 5, atEnd, "2 11, 11 11, 4 11; 16; 12"},
	// Ups and Downs of 0, and below 0
	{"base 1 0 0 top 1 0 0 bottom 1 0 0", 9, atStart, "0 12, 1 0, 2 16; 16; 12"},
	{"base 1 -3 9", 9, atStart, "0 15; 21; 12"},
	{"base 1 20 -9", 9, atStart, "0 0; 24; 20"},
	{"base 1 -3 -9", 9, atStart, "0 15; 16; 12"},
	{"top 1 -3 -9 bottom 1 -4 -8", 9, atStart, "0 0, 1 28; 16; 12"},
	{"top 1 -3 20 bottom 1 30 -12", 9, atStart, "0 0, 1 0; 18; 12"},
	{"bottom 1 -3 20 top 1 30 -12", 9, atStart, "0 1, 1 0; 18; 12"},
}

// P11.1: what is told, by hand.
func TestPlace(t *testing.T) {
	for _, x := range ordinary {
		checkTold(t, asked{spots(x.l), 12, 4, x.width, x.lines}, x.want, 0)
		for width := -20; width < 120; width++ {
			for lines := range uint8(3) {
				check(t, asked{spots(x.l), 12, 4, width, lines})
			}
		}
	}
}

// P11.1: the line's own font, of 0, and below 0, with spots and without.
func TestFonts(t *testing.T) {
	for _, x := range []struct {
		l        string
		up, down int
		want     string
	}{
		{"", 0, 0, "; 0; 0"},
		{"", 7, 0, "; 7; 7"},
		{"", 0, 7, "; 7; 0"},
		{"", -7, 9, "; 2; -7"},
		{"", 9, -7, "; 2; 9"},
		{"", -7, -9, "; -16; -7"},
		{"base 1 5 3", 0, 0, "0 0; 8; 5"},
		{"base 1 5 3", -7, -9, "0 0; 8; 5"},
		{"base 1 5 3", 6, -9, "0 1; 9; 6"},
		{"base 1 5 3", -7, 4, "0 0; 9; 5"},
		{"base 1 -5 -3", 0, 0, "0 5; 0; 0"},
		{"base 1 -5 -3", -7, -9, "0 0; -8; -5"},
		{"base 1 -5 -3", -4, -2, "0 1; -6; -4"},
		{"base 1 -5 -3", -4, -9, "0 1; -7; -4"},
		{"top 1 -5 -3", -7, -9, "0 0; -8; -7"},
		{"bottom 1 -5 -3", -7, -9, "0 0; -8; -7"},
		{"top 1 -5 -3 bottom 1 -6 -5", -4, -2, "0 0, 1 5; -6; -4"},
		{"top 1 0 0 bottom 1 -6 -5", -7, -9, "0 0, 1 11; 0; -7"},
		{"base 1 -5 -3 bottom 1 2 2", -7, -9, "0 0, 1 0; 4; -5"},
	} {
		for _, width := range []int{0, 1, 2} {
			checkTold(t, asked{spots(x.l), x.up, x.down, width, atStart}, x.want, 0)
		}
		for up := -12; up < 12; up++ {
			for down := -12; down < 12; down++ {
				check(t, asked{spots(x.l), up, down, 9, atMiddle})
			}
		}
	}
}

// P11.1: all short lists, and long ones by a fixed seed, against the chapter's
// words.
func TestAgainstHand(t *testing.T) {
	goOver(func(a asked) {
		if e := check(t, a); e != api.OK {
			t.Fatalf("%s: error %d", a, e)
		}
	})
}

// P11.1: just as many spots as may be, and one more, whatever they are, and
// whatever else is asked for; and very many.
func TestMaxFrags(t *testing.T) {
	for _, of := range []string{"base 1 1 1", "top 0 0 0", "bottom -3 2 1", "base 3 1 2 top 1 40 0 bottom 4 1 1", "base M 0 0 base -M 0 0"} {
		l := slices.Repeat(spots(of), maxFrags+1)[:maxFrags+1]
		for lines := range uint8(3) {
			if e := check(t, asked{l[:maxFrags], 12, 4, 0, lines}); e != api.OK {
				t.Errorf("%s: error %d", of, e)
			}
			for _, width := range []int{0, 5, maxCoord} {
				check(t, asked{l[:maxFrags], 12, 4, width, lines})
				checkTold(t, asked{l, 12, 4, width, lines}, nothing, 2)
			}
			checkTold(t, asked{l, 12, 4, maxCoord + 1, lines}, nothing, 2)
			checkTold(t, asked{l, math.MinInt, 4, 1, lines}, nothing, 2)
		}
		l[7].Up = maxCoord + 1
		checkTold(t, asked{l[:maxFrags], 12, 4, 1, atStart}, nothing, 10)
		checkTold(t, asked{l, 12, 4, 1, atStart}, nothing, 2)
	}
	for _, many := range []int{maxFrags + 2, 2 * maxFrags, 1000000} {
		checkTold(t, asked{make([]inline.Spot, many), 12, 4, 1, atStart}, nothing, 2)
	}
}

// P11.1: each Align that is none, wherever it stands, is refused ahead of a
// number that is no length; P0.2: with nothing beside the error.
func TestWrongAligns(t *testing.T) {
	for align := 3; align < 256; align++ {
		checkTold(t, asked{[]inline.Spot{{Align: uint8(align)}}, 12, 4, 1, atStart}, nothing, 2)
		for at := range 3 {
			l := spots("base 1 2 3 top 4 5 6 bottom 7 8 9")
			l[at].Align = uint8(align)
			for lines := range uint8(3) {
				checkTold(t, asked{l, 12, 4, 100, lines}, nothing, 2)
			}
			for _, none := range noLengths {
				checkTold(t, asked{l, 12, 4, none, atStart}, nothing, 2)
				checkTold(t, asked{l, none, 4, 1, atStart}, nothing, 2)
			}
			for where := range 3 {
				more := slices.Clone(l)
				more[where].Down = maxCoord + 1
				checkTold(t, asked{more, 12, 4, 1, atEnd}, nothing, 2)
			}
		}
	}
}

// P11.1: each number by which no line stands is refused, with and without
// spots, ahead of a number that is no length.
func TestWrongLines(t *testing.T) {
	for lines := 3; lines < 256; lines++ {
		for _, l := range []string{"", "base 1 2 3", "base 1 2 3 top 4 5 6 bottom 7 8 9", "base M+1 0 0", "top 1 -M-1 0", "bottom 1 M M"} {
			for _, width := range append([]int{0, 100}, noLengths...) {
				checkTold(t, asked{spots(l), 12, 4, width, uint8(lines)}, nothing, 2)
			}
			checkTold(t, asked{spots(l), maxCoord + 1, 4, 1, uint8(lines)}, nothing, 2)
			checkTold(t, asked{spots(l), 12, math.MinInt, 1, uint8(lines)}, nothing, 2)
		}
	}
}

// setters set each number that is asked for, and each field of the spot at a
// place.
var setters = []struct {
	name string
	set  func(a *asked, at, n int)
}{
	{"up", func(a *asked, _, n int) { a.up = n }},
	{"down", func(a *asked, _, n int) { a.down = n }},
	{"width", func(a *asked, _, n int) { a.width = n }},
	{"Width", func(a *asked, at, n int) { a.l[at].Width = n }},
	{"Up", func(a *asked, at, n int) { a.l[at].Up = n }},
	{"Down", func(a *asked, at, n int) { a.l[at].Down = n }},
}

// P11.1: each number that is handed in, just a length, and none, of spots of
// each Align, at the start, at the end and within, in lines of each kind.
func TestHandedIn(t *testing.T) {
	for _, x := range setters {
		for at := range 5 {
			for lines := range uint8(3) {
				of := func(n int) asked {
					a := asked{spots("base 1 2 3 top 4 5 6 bottom 7 8 9 base 3 2 1 top 6 5 4"), 12, 4, 100, lines}
					x.set(&a, at, n)
					return a
				}
				for _, n := range []int{0, 1, -1, 1 << 39, -1 << 39, maxCoord - 200, 200 - maxCoord} {
					if e := check(t, of(n)); e != api.OK {
						t.Errorf("%s %d: error %d", x.name, n, e)
					}
				}
				for _, n := range []int{maxCoord - 1, maxCoord, 1 - maxCoord, -maxCoord} {
					check(t, of(n))
				}
				for _, n := range noLengths {
					checkTold(t, of(n), nothing, 10)
				}
			}
		}
	}
}

// P11.1: what is asked for is just a length, or none, where no spot is.
func TestHandedInAlone(t *testing.T) {
	for lines := range uint8(3) {
		for _, x := range []struct {
			up, down, width int
			want            string
			e               api.Errno
		}{
			{0, 0, maxCoord, "; 0; 0", 0},
			{0, 0, -maxCoord, "; 0; 0", 0},
			{maxCoord, 0, 0, "; 1099511627776; 1099511627776", 0},
			{0, maxCoord, 0, "; 1099511627776; 0", 0},
			{-maxCoord, 0, 0, "; -1099511627776; -1099511627776", 0},
			{0, -maxCoord, 0, "; -1099511627776; 0", 0},
			{maxCoord, -maxCoord, 0, "; 0; 1099511627776", 0},
			{-maxCoord, maxCoord, 0, "; 0; -1099511627776", 0},
			{maxCoord, 1, 0, nothing, 10},
			{maxCoord - 1, 1, 0, "; 1099511627776; 1099511627775", 0},
			{-maxCoord, -1, 0, nothing, 10},
			{1 - maxCoord, -1, 0, "; -1099511627776; -1099511627775", 0},
			{maxCoord, maxCoord, 0, nothing, 10},
			{-maxCoord, -maxCoord, 0, nothing, 10},
		} {
			checkTold(t, asked{nil, x.up, x.down, x.width, lines}, x.want, x.e)
		}
		for _, none := range noLengths {
			checkTold(t, asked{nil, none, 4, 1, lines}, nothing, 10)
			checkTold(t, asked{nil, 12, none, 1, lines}, nothing, 10)
			checkTold(t, asked{nil, 12, 4, none, lines}, nothing, 10)
			checkTold(t, asked{nil, none, none, none, lines}, nothing, 10)
		}
	}
}

// P11.1: places and heights that are just a length, and such as are none, in
// lines of a font of no height; what spots come to on the way, all their widths
// together, and the heights of such as stand at the top or bottom and aren't
// told, aren't asked.
func TestJustLengths(t *testing.T) {
	for _, x := range []struct {
		l     string
		width int
		lines uint8
		want  string
		e     api.Errno
	}{
		// X
		{"base M 0 0 base 0 0 0", 0, atStart, "0 0, 1099511627776 0; 0; 0", 0},
		{"base M 0 0 base 1 0 0", 0, atStart, "0 0, 1099511627776 0; 0; 0", 0},
		{"base M 0 0 base M 0 0", 0, atEnd, "0 0, 1099511627776 0; 0; 0", 0},
		{"base M 0 0 base M 0 0", maxCoord, atMiddle, "0 0, 1099511627776 0; 0; 0", 0},
		{"base M 0 0 base 1 0 0 base 0 0 0", 0, atStart, nothing, 10},
		{"base M 0 0 base 1 0 0 base -1 0 0", 0, atStart, nothing, 10},
		{"base M 0 0 base 1 0 0 base -1 0 0 base 0 0 0", maxCoord, atEnd, nothing, 10},
		{"base -M 0 0 base 0 0 0", 0, atStart, "0 0, -1099511627776 0; 0; 0", 0},
		{"base -M 0 0 base -1 0 0", 0, atStart, "0 0, -1099511627776 0; 0; 0", 0},
		{"base -M 0 0 base -M 0 0", maxCoord, atStart, "0 0, -1099511627776 0; 0; 0", 0},
		{"base -M 0 0 base -1 0 0 base 0 0 0", 0, atStart, nothing, 10},
		{"base -M 0 0 base -1 0 0 base 1 0 0", 0, atStart, nothing, 10},
		// a lead
		{"base 0 0 0", maxCoord, atEnd, "1099511627776 0; 0; 0", 0},
		{"base -1 0 0", maxCoord, atEnd, nothing, 10},
		{"base -1 0 0", maxCoord - 1, atEnd, "1099511627776 0; 0; 0", 0},
		{"base -1 0 0 base 1 0 0", maxCoord, atEnd, "1099511627776 0, 1099511627775 0; 0; 0", 0},
		{"base -M 0 0", 0, atEnd, "1099511627776 0; 0; 0", 0},
		{"base -M 0 0", 1, atEnd, nothing, 10},
		{"base -M 0 0", maxCoord, atMiddle, "1099511627776 0; 0; 0", 0},
		{"base -M 0 0 base -1 0 0", maxCoord, atMiddle, "1099511627776 0, 0 0; 0; 0", 0},
		{"base -M 0 0 base -2 0 0", maxCoord, atMiddle, nothing, 10},
		{"base -M 0 0 base -M 0 0", -maxCoord, atEnd, "1099511627776 0, 0 0; 0; 0", 0},
		{"base -M 0 0 base -M 0 0", 1 - maxCoord, atEnd, nothing, 10},
		{"base -M 0 0 base -M 0 0 base M 0 0 base M 0 0", maxCoord, atEnd, "1099511627776 0, 0 0, -1099511627776 0, 0 0; 0; 0", 0},
		{"base M 0 0 base M 0 0 base -M 0 0 base -M 0 0", maxCoord, atEnd, nothing, 10},
		{"base 1 0 0 base M 0 0", maxCoord, atEnd, "0 0, 1 0; 0; 0", 0},
		// Y on the base
		{"base 0 M 0 base 0 0 0", 0, atStart, "0 0, 0 1099511627776; 1099511627776; 1099511627776", 0},
		{"base 0 M 0 base 0 -1 0", 0, atStart, nothing, 10},
		{"base 0 M 0 base 0 0 0 base 0 -1 0", 0, atStart, nothing, 10},
		{"base 0 -M 0", 0, atStart, "0 1099511627776; 0; 0", 0},
		{"base 0 -M 0 base 0 1 0", 0, atStart, nothing, 10},
		{"base 0 -M M", 0, atStart, "0 1099511627776; 1099511627776; 0", 0},
		// Y at the bottom
		{"bottom 0 -M 0", 0, atStart, "0 1099511627776; 0; 0", 0},
		{"bottom 0 0 -M", 0, atStart, "0 1099511627776; 0; 0", 0},
		{"bottom 0 -M -1", 0, atStart, nothing, 10},
		{"bottom 0 -1 -M", 0, atStart, nothing, 10},
		{"bottom 0 -M 0 base 0 0 1", 0, atStart, nothing, 10},
		{"top 0 M 0 bottom 0 0 0", 0, atStart, "0 0, 0 1099511627776; 1099511627776; 0", 0},
		{"top 0 M 0 bottom 0 -1 0", 0, atStart, nothing, 10},
		// Up and Down of what stands at the top, or isn't the tallest, together none
		{"top 0 -M -M", 0, atStart, "0 0; 0; 0", 0},
		{"top 0 -M M bottom 0 M -M", 0, atStart, "0 0, 0 0; 0; 0", 0},
		// the height
		{"top 0 M 0", 0, atStart, "0 0; 1099511627776; 0", 0},
		{"top 0 0 M", 0, atStart, "0 0; 1099511627776; 0", 0},
		{"top 0 M 1", 0, atStart, nothing, 10},
		{"bottom 0 1 M", 0, atStart, nothing, 10},
		{"bottom 0 M M", 0, atStart, nothing, 10},
		{"bottom 0 M 0", 0, atStart, "0 0; 1099511627776; 0", 0},
		{"base 0 M 0 base 0 M 0", 0, atStart, "0 0, 0 0; 1099511627776; 1099511627776", 0},
		{"base 0 M 1", 0, atStart, nothing, 10},
		{"base 0 0 1 base 0 M 0", 0, atStart, nothing, 10},
		{"base 0 M -1", 0, atStart, "0 0; 1099511627776; 1099511627776", 0},
		{"base 0 0 M", 0, atStart, "0 0; 1099511627776; 0", 0},
		{"base 0 1 M", 0, atStart, nothing, 10},
	} {
		checkTold(t, asked{spots(x.l), 0, 0, x.width, x.lines}, x.want, x.e)
		for lines := range uint8(3) {
			for _, width := range []int{maxCoord, maxCoord - 1, 0, 1, 1 - maxCoord, -maxCoord} {
				check(t, asked{spots(x.l), 0, 0, width, lines})
			}
		}
	}
}

// P11.1: all short lists of numbers around the bound, and long ones by a fixed
// seed: nothing on the way passes an int.
func TestGreatNumbers(t *testing.T) {
	alphabet := spots("base M M -M base -M 1 0 base -1 -M M base 1 0 -1 top M M M top 1 -M -M top -M 0 M bottom M -M -M bottom -M M 0 bottom -1 1 -1")
	for many := range 4 {
		listsOf(alphabet, many, func(l []inline.Spot) {
			for lines := range uint8(3) {
				for _, width := range []int{maxCoord, 1, 0, -maxCoord} {
					check(t, asked{l, 0, 0, width, lines})
					check(t, asked{l, maxCoord, -maxCoord, width, lines})
					check(t, asked{l, -maxCoord, -1, width, lines})
				}
			}
		})
	}
	for _, of := range []string{"base M 0 0", "base -M 0 0", "base M 0 0 top -M 0 0", "bottom -M 0 0 bottom M 0 0", "base -M M -M top M M M"} {
		for lines := range uint8(3) {
			for _, width := range []int{maxCoord, 0, -maxCoord} {
				check(t, asked{slices.Repeat(spots(of), maxFrags)[:maxFrags], 0, 0, width, lines})
			}
		}
	}
	r := rand.New(rand.NewSource(2))
	refused := 0
	for range 20000 {
		a := bySeed(r, r.Intn(8), 1<<(34+r.Intn(7)), true)
		if r.Intn(10) == 0 {
			a.down = maxCoord + r.Intn(2)
		}
		if check(t, a) != api.OK {
			refused++
		}
	}
	if refused < 2000 || refused > 15000 {
		t.Errorf("%d of 20000 refused", refused)
	}
}

// P0.4: a list that is handed in stays, its spare room too, and isn't kept;
// one that is empty, or nil, is no spots.
func TestListStays(t *testing.T) {
	for _, x := range ordinary {
		room := append(spots(x.l), spots("base 7 90 9 top 8 8 88")...)
		kept := slices.Clone(room)
		l := room[:len(room)-2]
		for lines := range uint8(4) {
			for _, width := range []int{x.width, 0, maxCoord, maxCoord + 1} {
				asked{l, 12, 4, width, lines}.place()
				if !slices.Equal(room, kept) {
					t.Fatalf("%s: changed to %v", x.l, room)
				}
			}
		}
		at, height, base, _ := asked{l, 12, 4, x.width, x.lines}.place()
		for i := range room {
			room[i] = inline.Spot{Width: -9, Up: -9, Down: -9, Align: 9}
		}
		if got := told(at, height, base); got != x.want {
			t.Errorf("%s: what was told is %s now", x.l, got)
		}
	}
	for _, l := range [][]inline.Spot{nil, {}, make([]inline.Spot, 0, 5)} {
		checkTold(t, asked{l, 12, 4, 100, atEnd}, "; 16; 12", 0)
	}
}

// P0.4: what is told is the caller's: written over, its spare room too, it
// changes no later answer, and none that was told ahead of it.
func TestToldIsTheCallers(t *testing.T) {
	for _, x := range ordinary {
		a := asked{spots(x.l), 12, 4, x.width, x.lines}
		ahead, height, base, _ := a.place()
		at, _, _, _ := a.place()
		at = at[:cap(at)]
		for i := range at {
			at[i] = inline.Pos{X: -1, Y: -1}
		}
		if got := told(ahead, height, base); got != x.want {
			t.Errorf("%s: what was told is %s now", x.l, got)
		}
		checkTold(t, a, x.want, 0)
	}
}

// P0.3: behind calls that are refused all are answered as ahead of them.
func TestRefusedChangesNothing(t *testing.T) {
	for _, x := range ordinary {
		l := spots(x.l)
		checkTold(t, asked{l, 12, 4, x.width, stretch}, nothing, 2)
		checkTold(t, asked{append(l, inline.Spot{Align: 3}), 12, 4, x.width, x.lines}, nothing, 2)
		checkTold(t, asked{l, 12, 4, maxCoord + 1, x.lines}, nothing, 10)
		checkTold(t, asked{append(l, inline.Spot{Up: maxCoord, Down: 1}), 12, 4, x.width, x.lines}, nothing, 10)
		checkTold(t, asked{l, 12, 4, x.width, x.lines}, x.want, 0)
	}
}
