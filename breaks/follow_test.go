package breaks_test

import (
	"math/rand"
	"strings"
	"testing"

	"windowpane/api"
	"windowpane/breaks"
)

// goOver goes over texts of all kinds, by each way in which blanks count.
func goOver(do func(s string, ws uint8)) {
	all := func(s string) {
		for _, ws := range known {
			do(s, ws)
		}
	}
	for _, s := range ordinary {
		all(s)
	}
	for many := range 7 {
		textsOf([]string{" ", "\n", "a", "bc", "\xFF"}, many, all)
	}
	numbers := rand.New(rand.NewSource(2))
	for range 20000 {
		all(textBySeed(numbers))
	}
}

// P9.3: what is shown is shown as itself; of WsKeep it is the text.
func TestShownAsItself(t *testing.T) {
	goOver(func(s string, ws uint8) {
		shown := breaks.Shown(s, ws)
		if again := breaks.Shown(shown, ws); again != shown {
			t.Errorf("%q by %d: shown as %q, and that as %q", s, ws, shown, again)
		}
		if ws == api.WsKeep && shown != s {
			t.Errorf("%q kept: shown as %q", s, shown)
		}
	})
}

// P9.3: without its blanks it is the text without its blanks.
func TestShownWithoutBlanks(t *testing.T) {
	goOver(func(s string, ws uint8) {
		if got, want := bare(breaks.Shown(s, ws)), bare(s); got != want {
			t.Errorf("%q by %d: without its blanks %q, not %q", s, ws, got, want)
		}
	})
}

// P9.4: of WsNormal words and blanks come by turns, and there is no other
// piece; of the others no piece is a blank.
func TestByTurns(t *testing.T) {
	goOver(func(s string, ws uint8) {
		l := breaks.Cut(s, ws)
		for i, p := range l {
			if ws != api.WsNormal && p.Kind != breaks.KWord && p.Kind != breaks.KHard {
				t.Errorf("%q by %d: %q has the kind %d", s, ws, p.Text, p.Kind)
			}
			if ws != api.WsNormal {
				continue
			}
			if p.Kind != breaks.KWord && p.Kind != breaks.KBlank {
				t.Errorf("%q: %q has the kind %d", s, p.Text, p.Kind)
			}
			if i > 0 && p.Kind == l[i-1].Kind {
				t.Errorf("%q: %q and %q are of one kind", s, l[i-1].Text, p.Text)
			}
		}
	})
}

// P9.4: no word is empty; a blank is one byte 32, a line's end has no Text; of
// WsNormal no word has a blank, of WsKeep none a byte 10.
func TestTextsOfPieces(t *testing.T) {
	goOver(func(s string, ws uint8) {
		for _, p := range breaks.Cut(s, ws) {
			switch {
			case p.Kind == breaks.KWord && p.Text == "":
				t.Errorf("%q by %d: an empty word", s, ws)
			case p.Kind == breaks.KBlank && p.Text != " ":
				t.Errorf("%q by %d: the blank %q", s, ws, p.Text)
			case p.Kind == breaks.KHard && p.Text != "":
				t.Errorf("%q by %d: the line's end %q", s, ws, p.Text)
			case p.Kind == breaks.KWord && ws == api.WsNormal && bare(p.Text) != p.Text:
				t.Errorf("%q: the word %q", s, p.Text)
			case p.Kind == breaks.KWord && ws == api.WsKeep && strings.Contains(p.Text, "\n"):
				t.Errorf("%q kept: the word %q", s, p.Text)
			}
		}
	})
}
