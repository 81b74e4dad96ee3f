package metric_test

import (
	"fmt"
	"math/big"
	"strconv"
	"strings"
	"testing"

	"windowpane/api"
	"windowpane/metric"
)

const (
	maxCoord = 1 << 40
	maxFont  = 1000
	broken   = 0xFFFD // what a byte is with which no character begins
)

// length is what a call answers that tells a length.
type length struct {
	n int
	e api.Errno
}

func lengthOf(n int, e api.Errno) length { return length{n, e} }

func checkLength(t *testing.T, got, want length, what ...any) {
	t.Helper()
	if got != want {
		t.Errorf("%s: %v, not %v", fmt.Sprint(what...), got, want)
	}
}

// named are the characters below 128 that the table names one by one, by
// their shares.
var named = map[int][]rune{
	16: {10, 32, '!', '\'', '(', ')', ',', '.', ':', ';', '[', ']', 'f', 'i', 'j', 'l', 't', '|'},
	48: {'%', '@', 'M', 'W', 'm', 'w'},
	40: {
		'A', 'B', 'C', 'D', 'E', 'F', 'G', 'H', 'I', 'J', 'K', 'L',
		'N', 'O', 'P', 'Q', 'R', 'S', 'T', 'U', 'V', 'X', 'Y', 'Z',
	},
}

// sharesBelow are the shares of the numbers below 128, by hand.
var sharesBelow = func() (shares [128]int) {
	for r := range shares {
		if r >= 32 {
			shares[r] = 32
		}
	}
	for share, l := range named {
		for _, r := range l {
			shares[r] = share
		}
	}
	return shares
}()

// shareByHand tells a number's share by the chapter's table.
func shareByHand(r rune) int {
	switch {
	case r < 0:
		return 0
	case r < 128:
		return sharesBelow[r]
	case r < 0x300:
		return 32
	case r < 0x370:
		return 0
	case r < 0x1100:
		return 32
	}
	return 64
}

// forms are those of RFC 3629: what the bits of a character's bytes are, an x
// for each bit of its number, and the least and the greatest number of it.
var forms = []struct {
	bits        string
	least, most rune
}{
	{"0xxxxxxx", 0, 0x7F},
	{"110xxxxx10xxxxxx", 0x80, 0x7FF},
	{"1110xxxx10xxxxxx10xxxxxx", 0x800, 0xFFFF},
	{"11110xxx10xxxxxx10xxxxxx10xxxxxx", 0x10000, 0x10FFFF},
}

// bitsByHand tells the bits of bytes, a digit for each.
func bitsByHand(s string) string {
	var b strings.Builder
	for i := range len(s) {
		fmt.Fprintf(&b, "%08b", s[i])
	}
	return b.String()
}

// filledByHand tells the number of those bits where a form has an x, if all
// its other bits are as they should be.
func filledByHand(bits, form string) (rune, bool) {
	number := ""
	for i := range len(form) {
		switch {
		case form[i] == 'x':
			number += bits[i : i+1]
		case form[i] != bits[i]:
			return 0, false
		}
	}
	n, err := strconv.ParseInt(number, 2, 32)
	return rune(n), err == nil
}

// firstByHand tells the character that a text which isn't empty begins with,
// and how many bytes it has; (broken, 1) where none begins there.
func firstByHand(s string) (r rune, used int) {
	for many := 1; many <= min(4, len(s)); many++ {
		form := forms[many-1]
		r, ok := filledByHand(bitsByHand(s[:many]), form.bits)
		if ok && r >= form.least && r <= form.most && (r < 0xD800 || r > 0xDFFF) {
			return r, many
		}
	}
	return broken, 1
}

// charactersByHand tells a text's characters.
func charactersByHand(s string) []rune {
	var l []rune
	for at := 0; at < len(s); {
		r, used := firstByHand(s[at:])
		l = append(l, r)
		at += used
	}
	return l
}

// endsWhole tells whether a text ends with a whole character.
func endsWhole(s string) bool {
	whole := false
	for at := 0; at < len(s); {
		r, used := firstByHand(s[at:])
		whole = r != broken || used > 1
		at += used
	}
	return whole
}

// widthByHand tells a text's width in a font by the words.
func widthByHand(s string, font int) length {
	if font < 1 || font > maxFont {
		return length{e: 2}
	}
	sum := new(big.Int)
	for _, r := range charactersByHand(s) {
		sum.Add(sum, new(big.Int).Mul(big.NewInt(int64(shareByHand(r))), big.NewInt(int64(font))))
	}
	if sum.Cmp(big.NewInt(maxCoord)) > 0 {
		return length{e: 10}
	}
	return length{n: int(sum.Int64())}
}

// checkText holds what is told of a text against what is told by hand.
func checkText(t *testing.T, s string, font int) {
	t.Helper()
	if got, want := metric.Count(s), len(charactersByHand(s)); got != want {
		t.Errorf("count of %q: %d, not %d", s, got, want)
	}
	checkLength(t, lengthOf(metric.Width(s, font)), widthByHand(s, font), "width of ", strconv.Quote(s), " in ", font)
}
