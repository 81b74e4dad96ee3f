package breaks_test

import (
	"math/rand"
	"slices"
	"strings"
	"testing"

	"windowpane/api"
	"windowpane/breaks"
)

// known are the ways in which blanks count.
var known = []uint8{api.WsNormal, api.WsStay, api.WsKeep}

var (
	blank = breaks.Piece{Kind: 1, Text: " "}
	end   = breaks.Piece{Kind: 2}
)

func word(text string) breaks.Piece { return breaks.Piece{Kind: 0, Text: text} }

// cutByHand tells a text's pieces by the chapter's words.
func cutByHand(s string, ws uint8) []breaks.Piece {
	switch {
	case ws == 0:
		return normalByHand(s)
	case ws == 1 && s != "":
		return []breaks.Piece{word(stayByHand(s))}
	case ws == 2:
		return keepByHand(s)
	}
	return nil
}

// normalByHand puts byte behind byte: one more piece, or more of the last one.
func normalByHand(s string) []breaks.Piece {
	var l []breaks.Piece
	for i := range len(s) {
		isBlank := s[i] == 32 || s[i] == 10
		last := len(l) - 1
		switch {
		case isBlank && last >= 0 && l[last] == blank:
		case isBlank:
			l = append(l, blank)
		case last >= 0 && l[last] != blank:
			l[last].Text += s[i : i+1]
		default:
			l = append(l, word(s[i:i+1]))
		}
	}
	return l
}

// stayByHand takes one of two blanks away as long as there are two.
func stayByHand(s string) string {
	s = strings.ReplaceAll(s, "\n", " ")
	for strings.Contains(s, "  ") {
		s = strings.ReplaceAll(s, "  ", " ")
	}
	return s
}

func keepByHand(s string) []breaks.Piece {
	var l []breaks.Piece
	for i, line := range strings.Split(s, "\n") {
		if i > 0 {
			l = append(l, end)
		}
		if line != "" {
			l = append(l, word(line))
		}
	}
	return l
}

// shownByHand tells pieces as one text.
func shownByHand(l []breaks.Piece) string {
	s := ""
	for _, p := range l {
		if p == end {
			s += "\n"
		}
		s += p.Text
	}
	return s
}

// bare tells a text without its blanks.
func bare(s string) string {
	return strings.ReplaceAll(strings.ReplaceAll(s, " ", ""), "\n", "")
}

// checkText holds what is told of a text against the chapter's words.
func checkText(t *testing.T, s string, ws uint8) {
	t.Helper()
	want := cutByHand(s, ws)
	if got := breaks.Cut(s, ws); !slices.Equal(got, want) {
		t.Errorf("%q by %d: %q, not %q", s, ws, got, want)
	}
	if got := breaks.Shown(s, ws); got != shownByHand(want) {
		t.Errorf("%q by %d: shown as %q, not %q", s, ws, got, shownByHand(want))
	}
}

// textsOf goes over all texts of so many of these pieces.
func textsOf(pieces []string, many int, do func(s string)) {
	if many == 0 {
		do("")
		return
	}
	textsOf(pieces, many-1, func(s string) {
		for _, p := range pieces {
			do(s + p)
		}
	})
}

// ordinary are texts as they are written, and such as have blanks everywhere.
var ordinary = []string{
	"", " ", "\n", "  ", "\n\n", " \n", "\n ", " \n \n  ", "a", " a", "a ", "\na", "a\n", "a b", "a\nb", "a  b", "a\n\nb", "a \nb", "a\n b",
	"one two three", "  one,  two\n\nthree.  \n", "\n\n\nverse one\n  verse two\n\n", "a  b\nc ", "    ", "\n\n\n\n", " a \n b \n",
	"tab\there", "naïve café", "日本語 の 文\n字", "e\u0301 a\u036F", "no\u00A0break", "thin\u2009space and\u2028line", "a😀 b\xFF \xE6\x97\n\x80",
}

// textBySeed tells a text of words and blanks, and of bytes of any kind.
func textBySeed(numbers *rand.Rand) string {
	s := ""
	for range numbers.Intn(20) {
		switch numbers.Intn(5) {
		case 0:
			s += strings.Repeat(" ", 1+numbers.Intn(3))
		case 1:
			s += strings.Repeat("\n", 1+numbers.Intn(3))
		case 2:
			s += "word"[:1+numbers.Intn(4)]
		case 3:
			s += string(rune(numbers.Intn(0x3000)))
		default:
			s += string([]byte{byte(numbers.Intn(256))})
		}
	}
	return s
}
