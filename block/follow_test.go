package block_test

import (
	"slices"
	"testing"

	"windowpane/api"
	"windowpane/block"
	"windowpane/margin"
)

// mustStack tells what comes of kids of which none is refused.
func mustStack(t *testing.T, l []block.Kid, b box) block.Stacked {
	t.Helper()
	s, e := block.Stack(l, b.above, b.below)
	if e != api.OK || len(s.At) != len(l) {
		t.Fatalf("%v, %v: %s, error %d", short(l), b, told(s), e)
	}
	return s
}

func isThrough(kid block.Kid) bool { return kid.Through }

// comesTo tells what some margins come to that meet.
func comesTo(l ...margin.Margin) int {
	m := whatMeets(l)
	return m.Up + m.Down
}

// allMargins tells all margins of kids.
func allMargins(l []block.Kid) []margin.Margin {
	var all []margin.Margin
	for _, kid := range l {
		all = append(all, kid.Top, kid.Bottom)
	}
	return all
}

// turned tells kids turned upside down.
func turned(l []block.Kid) []block.Kid {
	var other []block.Kid
	for _, kid := range slices.Backward(l) {
		kid.Top, kid.Bottom = kid.Bottom, kid.Top
		other = append(other, kid)
	}
	return other
}

// P14.2: of kids that aren't through, in a closed box, each one stands below
// the one ahead of it, by what its Top and that one's Bottom come to together;
// the first one by its Top; the box ends by the last one's Bottom below it.
func TestOneBelowTheOther(t *testing.T) {
	goOver(func(l []block.Kid) {
		l = slices.DeleteFunc(slices.Clone(l), isThrough)
		s := mustStack(t, l, closed)
		behind, waits := 0, margin.Margin{}
		for i, kid := range l {
			if want := behind + comesTo(waits, kid.Top); s.At[i] != want {
				t.Fatalf("%v: %d stands at %d, not %d", l, i, s.At[i], want)
			}
			behind, waits = s.At[i]+kid.Height, kid.Bottom
		}
		if want := max(0, behind+comesTo(waits)); s.Height != want {
			t.Fatalf("%v: %d tall, not %d", l, s.Height, want)
		}
	})
}

// P14.3: turned upside down, such kids stand turned upside down, if the height
// isn't brought up to 0; so do they in a box that is turned, too.
func TestTurnedAbout(t *testing.T) {
	many := 0
	goOver(func(l []block.Kid) {
		l = slices.DeleteFunc(slices.Clone(l), isThrough)
		for _, b := range boxes {
			s := mustStack(t, l, b)
			if placesByHand(l, b)[len(l)] < 0 {
				continue
			}
			many++
			other := mustStack(t, turned(l), box{above: b.below, below: b.above})
			if other.Height != s.Height {
				t.Fatalf("%v, %v: %d tall, turned about %d", l, b, s.Height, other.Height)
			}
			for i, at := range other.At {
				was := len(l) - 1 - i
				if want := s.Height - s.At[was] - l[was].Height; at != want {
					t.Fatalf("%v, %v: %d stands at %d turned about, not %d", l, b, was, at, want)
				}
			}
		}
	})
	if many < 10000 {
		t.Errorf("only %d", many)
	}
}

// P14.4: a box that is open above has its kids, from the first one that isn't
// through on, higher by what its Top comes to than one that is closed there.
func TestOpenAbove(t *testing.T) {
	goOver(func(l []block.Kid) {
		for _, below := range []bool{false, true} {
			open, shut := mustStack(t, l, box{true, below}), mustStack(t, l, box{false, below})
			higher, outside := comesTo(open.Top), true
			for i, kid := range l {
				outside = outside && kid.Through
				want := shut.At[i] - higher
				if outside {
					want = 0
				}
				if open.At[i] != want {
					t.Fatalf("%v: %d stands at %d, not %d", l, i, open.At[i], want)
				}
			}
			if shut.Top != (margin.Margin{}) {
				t.Fatalf("%v: a Top of one that is closed: %v", l, shut.Top)
			}
			if !outside && open.Bottom != shut.Bottom {
				t.Fatalf("%v: Bottoms %v, %v", l, open.Bottom, shut.Bottom)
			}
		}
	})
}

// P14.4: one that is open below has no more at its end: it ends where the last
// kid that isn't through does, and its kids stand as in one that is closed
// there, which is taller by what the Bottom comes to.
func TestOpenBelow(t *testing.T) {
	goOver(func(l []block.Kid) {
		for _, above := range []bool{false, true} {
			open, shut := mustStack(t, l, box{above, true}), mustStack(t, l, box{above, false})
			behind := 0
			if last := lastTall(l, len(l)); last >= 0 {
				behind = open.At[last] + l[last].Height
			}
			if want := max(0, behind); open.Height != want {
				t.Fatalf("%v: %d tall, not %d", l, open.Height, want)
			}
			if want := max(0, behind+comesTo(open.Bottom)); shut.Height != want {
				t.Fatalf("%v: closed %d tall, not %d", l, shut.Height, want)
			}
			if !slices.Equal(open.At, shut.At) || open.Top != shut.Top || shut.Bottom != (margin.Margin{}) {
				t.Fatalf("%v: %s, closed %s", l, told(open), told(shut))
			}
		}
	})
}

// P14.5: a box of kids that are all through, open above and below, is through,
// and its Top is all their margins joined; no other box is through.
func TestNothingThere(t *testing.T) {
	goOver(func(l []block.Kid) {
		for _, b := range boxes {
			all := !slices.ContainsFunc(l, func(kid block.Kid) bool { return !kid.Through })
			if s := mustStack(t, l, b); s.Through != (all && b == openBoth) {
				t.Fatalf("%v, %v: %s", l, b, told(s))
			}
		}
		l = slices.DeleteFunc(slices.Clone(l), func(kid block.Kid) bool { return !kid.Through })
		s := mustStack(t, l, openBoth)
		want := block.Stacked{At: make([]int, len(l)), Top: whatMeets(allMargins(l)), Through: true}
		if !same(s, want) {
			t.Fatalf("%v: %s, not %s", l, told(s), told(want))
		}
	})
}

// P14.5, P14.1: a box that is through may stand as a kid in another one: there
// it counts as its kids would.
func TestThroughInAnother(t *testing.T) {
	tall := kids("10 5 20, 3/-2 4 -6")
	goOver(func(l []block.Kid) {
		inner := slices.DeleteFunc(slices.Clone(l), func(kid block.Kid) bool { return !kid.Through })
		s := mustStack(t, inner, openBoth)
		kid := block.Kid{Top: s.Top, Bottom: s.Bottom, Height: s.Height, Through: s.Through}
		for _, b := range boxes {
			nested := mustStack(t, []block.Kid{tall[0], kid, tall[1]}, b)
			flat := mustStack(t, slices.Concat(tall[:1], inner, tall[1:]), b)
			if nested.Height != flat.Height || nested.At[2] != flat.At[len(flat.At)-1] || nested.Top != flat.Top || nested.Bottom != flat.Bottom {
				t.Fatalf("%v, %v: %s, flat %s", inner, b, told(nested), told(flat))
			}
		}
	})
}
