package flex_test

import (
	"slices"
	"testing"

	"windowpane/api"
	"windowpane/flex"
)

// mustMain tells where boxes begin that aren't refused.
func mustMain(t *testing.T, outer []int, h how) []int {
	t.Helper()
	begins, e := flex.Main(outer, h.gap, h.room, h.justify, h.back)
	if e != api.OK || len(begins) != len(outer) {
		t.Fatalf("%v by %v: %v, error %d", short(outer), h, short(begins), e)
	}
	return begins
}

// P17.3: if something, or nothing, is left, and no box has a size below 0, all
// stand within the room, each at least the gap behind the one ahead of it:
// backwards, ahead of it.
func TestSideBySide(t *testing.T) {
	some, nothing, atGap := 0, 0, 0
	goOver(func(outer []int, h how) {
		left := leftBeside(outer, h.gap, h.room)
		if left < 0 || len(outer) == 0 || slices.Min(outer) < 0 {
			return
		}
		begins := mustMain(t, outer, h)
		for i, begin := range begins {
			if begin < 0 || begin+outer[i] > h.room {
				t.Fatalf("%v by %v: %v, the box %d isn't within", outer, h, begins, i)
			}
			if i == 0 {
				continue
			}
			apart := begin - (begins[i-1] + outer[i-1])
			if h.back {
				apart = begins[i-1] - (begin + outer[i])
			}
			if apart < h.gap {
				t.Fatalf("%v by %v: %v, the box %d is %d behind", outer, h, begins, i, apart)
			}
			if apart == h.gap {
				atGap++
			}
		}
		if left == 0 {
			nothing++
		} else {
			some++
		}
	})
	if some < 50000 || nothing < 5000 || atGap < 50000 {
		t.Errorf("only %d with some left, %d with nothing, %d at the gap", some, nothing, atGap)
	}
}

// spaces tells how much is ahead of the first box, between each two beside the
// gap, and behind the last one, forwards.
func spaces(outer, begins []int, h how) []int {
	var l []int
	at := 0
	for i, begin := range begins {
		l = append(l, begin-at)
		at = begin + outer[i] + h.gap
	}
	return append(l, h.room-(at-h.gap))
}

// spread tells by how much numbers differ at most.
func spread(l []int) int { return slices.Max(l) - slices.Min(l) }

// P17.4: at the start the first box begins at 0, at the end the last one ends at
// the room, in the middle there is as much ahead as behind, but 1; between the
// first one begins and the last one ends there, and gaps differ by 1 at most;
// evenly all places do. (Backwards: TestBackwards.)
func TestAsAsked(t *testing.T) {
	many, unlike := map[uint8]int{}, map[uint8]int{}
	goOver(func(outer []int, h how) {
		if h.back || len(outer) == 0 {
			return
		}
		l := spaces(outer, mustMain(t, outer, h), h)
		first, inner, last := l[0], l[1:len(l)-1], l[len(l)-1]
		left := leftBeside(outer, h.gap, h.room)
		is, differ := true, 0
		switch h.justify {
		case atStart:
			is = first == 0
		case atEnd:
			is = last == 0
		case atMiddle:
			differ = max(first-last, last-first)
			is = differ <= 1
		case between:
			if left <= 0 || len(outer) < 2 {
				return
			}
			differ = spread(inner)
			is = first == 0 && last == 0 && differ <= 1
		case evenly:
			if left <= 0 {
				return
			}
			differ = spread(l)
			is = differ <= 1
		}
		if !is || together(l) != left {
			t.Fatalf("%v by %v: %v, of %d", outer, h, l, left)
		}
		many[h.justify]++
		unlike[h.justify] += differ
	})
	for _, justify := range alongWays {
		if many[justify] < 20000 || justify >= atMiddle && unlike[justify] < 5000 {
			t.Errorf("justify %d: only %d, %d unlike", justify, many[justify], unlike[justify])
		}
	}
}

// P17.4: at the start, at the end and in the middle nothing more stands between
// two boxes; and so it is of Between and Evenly, where nothing is left, or less.
func TestNothingMore(t *testing.T) {
	asStart := 0
	goOver(func(outer []int, h how) {
		if h.back || len(outer) == 0 {
			return
		}
		left := leftBeside(outer, h.gap, h.room)
		if h.justify > atMiddle && left > 0 && (h.justify == evenly || len(outer) > 1) {
			return
		}
		begins := mustMain(t, outer, h)
		l := spaces(outer, begins, h)
		if inner := l[1 : len(l)-1]; len(inner) > 0 && (slices.Min(inner) != 0 || slices.Max(inner) != 0) {
			t.Fatalf("%v by %v: %v", outer, h, l)
		}
		if h.justify > atMiddle {
			h.justify = atStart
			if want := mustMain(t, outer, h); !slices.Equal(begins, want) {
				t.Fatalf("%v by %v: %v, not %v", outer, h, begins, want)
			}
			asStart++
		}
	})
	if asStart < 20000 {
		t.Errorf("only %d as at the start", asStart)
	}
}

// P17.5: backwards each box is as far from the end as it is from the beginning
// else.
func TestBackwards(t *testing.T) {
	unlike := 0
	goOver(func(outer []int, h how) {
		h.back = false
		forwards := mustMain(t, outer, h)
		h.back = true
		backwards := mustMain(t, outer, h)
		for i, begin := range backwards {
			if end := begin + outer[i]; h.room-end != forwards[i] {
				t.Fatalf("%v by %v: %v, and backwards %v", outer, h, forwards, backwards)
			}
		}
		if !slices.Equal(forwards, backwards) {
			unlike++
		}
	})
	if unlike < 200000 {
		t.Errorf("only %d unlike", unlike)
	}
}

// P17.2: across a line a box stands as one alone stands along it; and the one
// that is stretched as the one at the start.
func TestCrossAsMain(t *testing.T) {
	for outer := -30; outer <= 30; outer++ {
		for room := range 31 {
			for _, align := range []uint8{atStart, atEnd, atMiddle} {
				begin, e := flex.Cross(outer, room, align)
				if along := mustMain(t, []int{outer}, how{0, room, align, false}); e != api.OK || begin != along[0] {
					t.Fatalf("%d in %d, align %d: %d, error %d, and along %v", outer, room, align, begin, e, along)
				}
			}
			if begin, e := flex.Cross(outer, room, stretch); begin != 0 || e != api.OK {
				t.Fatalf("%d in %d, stretched: %d, error %d", outer, room, begin, e)
			}
		}
	}
}
