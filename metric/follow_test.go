package metric_test

import (
	"math/rand"
	"testing"

	"windowpane/metric"
)

// wide tells the width of a text that has one.
func wide(t *testing.T, s string, font int) int {
	t.Helper()
	n, e := metric.Width(s, font)
	if e != 0 {
		t.Fatalf("width of %q in %d: %v", s, font, e)
	}
	return n
}

func checkSideBySide(t *testing.T, a, b string, font int) {
	t.Helper()
	if got, want := wide(t, a+b, font), wide(t, a, font)+wide(t, b, font); got != want {
		t.Errorf("%q and %q in %d: %d, not %d", a, b, font, got, want)
	}
	if got, want := metric.Count(a+b), metric.Count(a)+metric.Count(b); got != want {
		t.Errorf("%q and %q: %d characters, not %d", a, b, got, want)
	}
}

// P8.4: a first text that ends with a whole character, whatever comes behind.
func TestSideBySide(t *testing.T) {
	behind := append([]string{"\x80", "\xFF", "\x97\xA5", "\xE6\x97", "\u0301", "\uFFFD", "\xE6\x97\xA5i"}, ordinary...)
	for _, a := range append([]string{"\x80W", "\xFF日", "\xE6\x97i", "\xF0\x9F\x98\u0301", "\x97\xA5\uFFFD"}, ordinary...) {
		for _, b := range behind {
			checkSideBySide(t, a, b, 12)
		}
	}
	numbers := rand.New(rand.NewSource(3))
	for range 4000 {
		a, b := textBySeed(numbers), textBySeed(numbers)
		if endsWhole(a) {
			checkSideBySide(t, a, b, 1+numbers.Intn(maxFont))
		}
	}
}

// P8.4: a character is one again where its bytes meet, and so not as wide.
func TestCutSideBySide(t *testing.T) {
	front, rest := "a\xE6\x97", "\xA5b"
	if got := wide(t, front, 1); got != 32+128 {
		t.Errorf("the front: %d", got)
	}
	if got := wide(t, rest, 1); got != 64+32 {
		t.Errorf("the rest: %d", got)
	}
	if got := wide(t, front+rest, 1); got != 32+64+32 {
		t.Errorf("both: %d", got)
	}
}

// P8.5.
func TestFonts(t *testing.T) {
	for _, s := range append([]string{"\xFF", "\xE6\x97", "\xED\xA0\x80"}, ordinary...) {
		for font := 1; font <= maxFont; font++ {
			for times := 1; font*times <= maxFont; times++ {
				if got, want := wide(t, s, font*times), times*wide(t, s, font); got != want {
					t.Fatalf("%q in %d times %d: %d, not %d", s, times, font, got, want)
				}
			}
		}
	}
}
