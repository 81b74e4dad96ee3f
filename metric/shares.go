package metric

import (
	"math"
	"strings"
)

const (
	narrow = "\n !'(),.:;[]fijlt|"
	broad  = "%@MWmw"
)

// The shares, in 64ths of a font's size.
const (
	shareOfNone     = 0
	shareOfNarrow   = 16
	shareOfOthers   = 32
	shareOfCapitals = 40
	shareOfBroad    = 48
	shareOfWhole    = 64
)

// row gives a share to the characters of which it holds.
type row struct {
	holds func(r rune) bool
	share int
}

// sharer makes a closure that tells a character's share: a text needs the rows
// for each of its characters, and has them made but once.
func sharer() func(r rune) int {
	// The first row that holds counts: single characters stand ahead of those
	// around them, and the last row holds of whatever is left.
	rows := []row{
		{between(0x1100, math.MaxInt32), shareOfWhole},
		{between(0x300, 0x36F), shareOfNone},
		{among(narrow), shareOfNarrow},
		{between(math.MinInt32, ' '-1), shareOfNone},
		{among(broad), shareOfBroad},
		{between('A', 'Z'), shareOfCapitals},
		{between(math.MinInt32, math.MaxInt32), shareOfOthers},
	}
	return func(r rune) int {
		at := 0
		for !rows[at].holds(r) {
			at++
		}
		return rows[at].share
	}
}

func among(signs string) func(r rune) bool {
	return func(r rune) bool { return strings.ContainsRune(signs, r) }
}

func between(least, most rune) func(r rune) bool {
	return func(r rune) bool { return r >= least && r <= most }
}
