package breaks_test

import (
	"math/rand"
	"slices"
	"strings"
	"testing"
	"unsafe"

	"windowpane/api"
	"windowpane/breaks"
)

// The kinds, as their numbers.
func TestKinds(t *testing.T) {
	for want, got := range []uint8{breaks.KWord, breaks.KBlank, breaks.KHard, breaks.KBox} {
		if int(got) != want {
			t.Errorf("kind %d, not %d", got, want)
		}
	}
}

// P9.1, P9.2: all rows of the chapter's examples; edges by hand.
func TestExamples(t *testing.T) {
	for _, x := range []struct {
		s     string
		ws    uint8
		want  []breaks.Piece
		shown string
	}{
		{"a  b\nc ", api.WsNormal, []breaks.Piece{word("a"), blank, word("b"), blank, word("c"), blank}, "a b c "},
		{"a  b\nc ", api.WsStay, []breaks.Piece{word("a b c ")}, "a b c "},
		{"a  b\nc ", api.WsKeep, []breaks.Piece{word("a  b"), end, word("c ")}, "a  b\nc "},
		// nothing
		{"", api.WsNormal, nil, ""},
		{"", api.WsStay, nil, ""},
		{"", api.WsKeep, nil, ""},
		// blanks alone
		{" ", api.WsNormal, []breaks.Piece{blank}, " "},
		{" ", api.WsStay, []breaks.Piece{word(" ")}, " "},
		{" ", api.WsKeep, []breaks.Piece{word(" ")}, " "},
		{"\n", api.WsNormal, []breaks.Piece{blank}, " "},
		{"\n", api.WsStay, []breaks.Piece{word(" ")}, " "},
		{"\n", api.WsKeep, []breaks.Piece{end}, "\n"},
		{" \n\n ", api.WsNormal, []breaks.Piece{blank}, " "},
		{" \n\n ", api.WsStay, []breaks.Piece{word(" ")}, " "},
		{" \n\n ", api.WsKeep, []breaks.Piece{word(" "), end, end, word(" ")}, " \n\n "},
		// rows of blanks at both ends, and within
		{" \na\n b \n", api.WsNormal, []breaks.Piece{blank, word("a"), blank, word("b"), blank}, " a b "},
		{" \na\n b \n", api.WsStay, []breaks.Piece{word(" a b ")}, " a b "},
		{" \na\n b \n", api.WsKeep, []breaks.Piece{word(" "), end, word("a"), end, word(" b "), end}, " \na\n b \n"},
		// ends side by side, at the beginning, within and at the end
		{"\n\na\n\nb\n\n", api.WsKeep, []breaks.Piece{end, end, word("a"), end, end, word("b"), end, end}, "\n\na\n\nb\n\n"},
		{"  one  two  ", api.WsKeep, []breaks.Piece{word("  one  two  ")}, "  one  two  "},
		// one word
		{"one", api.WsNormal, []breaks.Piece{word("one")}, "one"},
		{"x", api.WsStay, []breaks.Piece{word("x")}, "x"},
		{"x", api.WsKeep, []breaks.Piece{word("x")}, "x"},
	} {
		if got := breaks.Cut(x.s, x.ws); !slices.Equal(got, x.want) {
			t.Errorf("%q by %d: %q", x.s, x.ws, got)
		}
		if got := breaks.Shown(x.s, x.ws); got != x.shown {
			t.Errorf("%q by %d: shown as %q", x.s, x.ws, got)
		}
	}
}

// P9.1, P9.2: ordinary texts, by each Ws: from 3 on there is nothing.
func TestEachWs(t *testing.T) {
	for ws := range 256 {
		for _, s := range ordinary {
			checkText(t, s, uint8(ws))
			if ws <= 2 {
				continue
			}
			if l, shown := breaks.Cut(s, uint8(ws)), breaks.Shown(s, uint8(ws)); len(l) > 0 || shown != "" {
				t.Errorf("%q by %d: %q, %q", s, ws, l, shown)
			}
		}
	}
}

// P9.1, P9.2: rows of blanks of each kind and in each order, of up to four
// bytes, at each spot around and between words of one byte and of more.
func TestRowsOfBlanks(t *testing.T) {
	rows := []string{""}
	for many := 1; many <= 4; many++ {
		textsOf([]string{" ", "\n"}, many, func(s string) { rows = append(rows, s) })
	}
	for _, front := range rows {
		for _, back := range rows {
			for _, s := range []string{front + "a" + back, front + "one" + back, "a" + front + "b" + back + "c", front + "one" + back + "a", front + back} {
				for _, ws := range known {
					checkText(t, s, ws)
				}
			}
		}
	}
}

// P9.1, P9.2: all texts of up to six of these bytes, among them some that
// others call blanks.
func TestAllShort(t *testing.T) {
	for many := range 7 {
		textsOf([]string{" ", "\n", "a", "\t", "\x00", "\xA0"}, many, func(s string) {
			for _, ws := range known {
				checkText(t, s, ws)
			}
		})
	}
}

// P9.1, P9.2: 32 and 10 alone are blanks; each other byte, and each character
// of more than one, is told as it came.
func TestOthersAreNoBlanks(t *testing.T) {
	others := []string{"\u0085", "\u00A0", "\u1680", "\u2002", "\u2028", "\u2029", "\u202F", "\u205F", "\u3000", "\uFEFF", "\u2420", "\u0A20", "日", "😀", "\xE3\x80", "\xF0\x9F\x98"}
	for c := range 256 {
		others = append(others, string([]byte{byte(c)}))
	}
	for _, s := range others {
		if s == " " || s == "\n" {
			continue
		}
		for _, text := range []string{s, s + s, "a" + s + "b", s + "a" + s} {
			for _, ws := range known {
				if got := breaks.Cut(text, ws); !slices.Equal(got, []breaks.Piece{word(text)}) {
					t.Errorf("%q by %d: %q", text, ws, got)
				}
				if got := breaks.Shown(text, ws); got != text {
					t.Errorf("%q by %d: shown as %q", text, ws, got)
				}
			}
		}
		for _, text := range []string{" " + s + " ", "\n" + s + "\n", s + " \n" + s, s + "\n\n", "  " + s} {
			for _, ws := range known {
				checkText(t, text, ws)
			}
		}
	}
}

// P9.1, P9.2: all texts of two bytes.
func TestPairs(t *testing.T) {
	for a := range 256 {
		for b := range 256 {
			for _, ws := range known {
				checkText(t, string([]byte{byte(a), byte(b)}), ws)
			}
		}
	}
}

// P9.1, P9.2: texts of whatever words, blanks and bytes, by a fixed seed.
func TestTextsBySeed(t *testing.T) {
	numbers := rand.New(rand.NewSource(1))
	for range 20000 {
		s := textBySeed(numbers)
		for _, ws := range known {
			checkText(t, s, ws)
		}
	}
}

// P9.1, P9.2, P0.1: texts of very many pieces, and very long ones.
func TestLong(t *testing.T) {
	const many = 100000
	for _, x := range []struct {
		s                  string
		normal, stay, keep int
		shown              int
	}{
		{strings.Repeat("a ", many), 2 * many, 1, 1, 2 * many},
		{strings.Repeat("a\n", many), 2 * many, 1, 2 * many, 2 * many},
		{strings.Repeat("\n", many), 1, 1, many, 1},
		{strings.Repeat(" ", many), 1, 1, 1, 1},
		{strings.Repeat("long", many), 1, 1, 1, 4 * many},
	} {
		for ws, want := range []int{x.normal, x.stay, x.keep} {
			if got := len(breaks.Cut(x.s, uint8(ws))); got != want {
				t.Errorf("%.8q.. by %d: %d pieces, not %d", x.s, ws, got, want)
			}
		}
		if a, b := len(breaks.Shown(x.s, api.WsNormal)), len(breaks.Shown(x.s, api.WsStay)); a != x.shown || b != x.shown {
			t.Errorf("%.8q..: shown in %d and %d bytes, not %d", x.s, a, b, x.shown)
		}
		if breaks.Shown(x.s, api.WsKeep) != x.s {
			t.Errorf("%.8q..: not shown as it is", x.s)
		}
	}
}

// P0.4: a list that is written over, its spare room too, changes no later
// answer, and none that was told ahead of it.
func TestListIsTheCallers(t *testing.T) {
	for _, s := range ordinary {
		for _, ws := range known {
			ahead, want := breaks.Cut(s, ws), cutByHand(s, ws)
			l := breaks.Cut(s, ws)
			l = l[:cap(l)]
			for i := range l {
				l[i] = breaks.Piece{Kind: breaks.KBox, Text: "written over"}
			}
			checkText(t, s, ws)
			if !slices.Equal(ahead, want) {
				t.Errorf("%q by %d: what was told is %q now", s, ws, ahead)
			}
		}
	}
}

// P0.4: what is told keeps nothing of the text's memory.
func TestTextIsNotKept(t *testing.T) {
	for _, s := range ordinary {
		if s == "" {
			continue
		}
		for _, ws := range known {
			memory := []byte(s)
			text := unsafe.String(&memory[0], len(memory))
			l, shown := breaks.Cut(text, ws), breaks.Shown(text, ws)
			if string(memory) != s {
				t.Errorf("%q by %d: changed", s, ws)
			}
			for i := range memory {
				memory[i] = '#'
			}
			want := cutByHand(s, ws)
			if !slices.Equal(l, want) || shown != shownByHand(want) {
				t.Errorf("%q by %d: kept: %q, %q", s, ws, l, shown)
			}
		}
	}
}

// P0.3: behind calls of a Ws that is none all are answered as ahead of them.
func TestRefusedChangesNothing(t *testing.T) {
	for ws := 3; ws < 256; ws++ {
		breaks.Cut("a  b\nc ", uint8(ws))
		breaks.Shown("a  b\nc ", uint8(ws))
		for _, may := range known {
			checkText(t, "a  b\nc ", may)
		}
	}
}
