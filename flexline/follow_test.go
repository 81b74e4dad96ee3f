package flexline_test

import (
	"slices"
	"testing"

	"windowpane/api"
	"windowpane/flexline"
)

// mustSplit tells the lines of boxes that aren't refused.
func mustSplit(t *testing.T, sizes []int, h how) []flexline.Line {
	t.Helper()
	l, e := flexline.Split(sizes, h.gap, h.room, h.wrap)
	if e != api.OK {
		t.Fatalf("%v by %v: error %d", short(sizes), h, e)
	}
	return l
}

// P15.3: lines stand one behind the other, none is empty, and all together have
// all boxes.
func TestAllAreThere(t *testing.T) {
	goOver(func(sizes []int, h how) {
		behind := 0
		for _, line := range mustSplit(t, sizes, h) {
			if line.From != behind || line.To <= line.From {
				t.Fatalf("%v by %v: %v behind %d", sizes, h, line, behind)
			}
			behind = line.To
		}
		if behind != len(sizes) {
			t.Fatalf("%v by %v: up to %d", sizes, h, behind)
		}
	})
}

// P15.4: with wrapping, and a room, a line that has more than one box is no
// longer than the room; with the next box each one would be.
func TestAsManyAsCanBe(t *testing.T) {
	goOver(func(sizes []int, h how) {
		l := mustSplit(t, sizes, h)
		if !h.wrap || h.room == -1 {
			if len(l) > 1 {
				t.Fatalf("%v by %v: %s", sizes, h, told(l))
			}
			return
		}
		for _, line := range l {
			if line.To-line.From > 1 && longByHand(sizes[line.From:line.To], h.gap) > h.room {
				t.Fatalf("%v by %v: %v is too long", sizes, h, line)
			}
			if line.To < len(sizes) && longByHand(sizes[line.From:line.To+1], h.gap) <= h.room {
				t.Fatalf("%v by %v: %v is too short", sizes, h, line)
			}
		}
	})
}

// P15.4: as a line has as many boxes as can be, no other way to split boxes, of
// sizes that aren't below 0, needs fewer lines.
func TestFewestLines(t *testing.T) {
	goOver(func(sizes []int, h how) {
		if len(sizes) > 20 || !h.wrap || h.room == -1 || len(sizes) > 0 && slices.Min(sizes) < 0 {
			return
		}
		fewest := make([]int, len(sizes)+1) // of the boxes ahead of a place
		for to := 1; to <= len(sizes); to++ {
			fewest[to] = 1 + fewest[to-1]
			for from := range to {
				if longByHand(sizes[from:to], h.gap) <= h.room {
					fewest[to] = min(fewest[to], 1+fewest[from])
				}
			}
		}
		if l := mustSplit(t, sizes, h); len(l) != fewest[len(sizes)] {
			t.Fatalf("%v by %v: %s, not %d", sizes, h, told(l), fewest[len(sizes)])
		}
	})
}

// P15.5: each place comes once; Orders rise; of equal ones places rise.
func TestStable(t *testing.T) {
	goOverOrders(func(l []int) {
		places := flexline.Order(l)
		came := make([]int, len(l))
		for i, place := range places {
			if place < 0 || place >= len(l) {
				t.Fatalf("%v: the place %d", l, place)
			}
			came[place]++
			if i == 0 {
				continue
			}
			ahead := places[i-1]
			if l[ahead] > l[place] || l[ahead] == l[place] && ahead >= place {
				t.Fatalf("%v: %d behind %d", l, place, ahead)
			}
		}
		for place, times := range came {
			if times != 1 {
				t.Fatalf("%v: %d comes %d times", l, place, times)
			}
		}
		if len(places) != len(l) {
			t.Fatalf("%v: %d places", l, len(places))
		}
	})
}
