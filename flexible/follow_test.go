package flexible_test

import (
	"slices"
	"testing"

	"windowpane/api"
	"windowpane/flexible"
)

// mustSizes tells the sizes of boxes that aren't refused.
func mustSizes(t *testing.T, l []flexible.Item, h how) []int {
	t.Helper()
	sizes, e := flexible.Sizes(l, h.gap, h.room)
	if e != api.OK {
		t.Fatalf("%+v by %v: error %d", short(l), h, e)
	}
	return sizes
}

// firsts tells boxes' first sizes.
func firsts(l []flexible.Item) []int {
	sizes := make([]int, len(l))
	for i, x := range l {
		sizes[i] = flexible.First(x)
	}
	return sizes
}

// doGrow tells whether boxes with a room grow.
func doGrow(l []flexible.Item, h how) bool {
	return together(firsts(l))+around(l, h) < h.room
}

// P16.2: with a room all sizes, Outers and gaps are the room together; or less,
// and each box that grows has its most (its least, where that is above it); or
// more, and each one that shrinks, and has a base, has its least.
func TestFull(t *testing.T) {
	full, less, more := 0, 0, 0
	goOver(func(l []flexible.Item, h how) {
		if h.room == -1 {
			return
		}
		sizes := mustSizes(t, l, h)
		grow := doGrow(l, h)
		switch n := together(sizes) + around(l, h); {
		case n == h.room:
			full++
			return
		case n < h.room && grow:
			less++
		case n > h.room && !grow:
			more++
		default:
			t.Fatalf("%+v by %v: %v is %d", l, h, sizes, n)
		}
		for i, x := range l {
			if grow && x.Grow > 0 && sizes[i] != max(x.Most, x.Least) {
				t.Fatalf("%+v by %v: %v, the box %d could grow", l, h, sizes, i)
			}
			if !grow && x.Shrink > 0 && x.Base > 0 && sizes[i] != x.Least {
				t.Fatalf("%+v by %v: %v, the box %d could shrink", l, h, sizes, i)
			}
		}
	})
	if full < 10000 || less < 2000 || more < 2000 {
		t.Errorf("only %d full, %d less, %d more", full, less, more)
	}
}

// P16.3: when boxes grow none is smaller than its first size; when they shrink
// none is greater.
func TestOneWay(t *testing.T) {
	grown, shrunk := 0, 0
	goOver(func(l []flexible.Item, h how) {
		sizes := mustSizes(t, l, h)
		grow := doGrow(l, h)
		for i, first := range firsts(l) {
			switch {
			case sizes[i] == first:
			case h.room == -1, grow != (sizes[i] > first):
				t.Fatalf("%+v by %v: %v, the box %d was %d", l, h, sizes, i, first)
			case grow:
				grown++
			default:
				shrunk++
			}
		}
	})
	if grown < 50000 || shrunk < 50000 {
		t.Errorf("only %d grown, %d shrunk", grown, shrunk)
	}
}

// P16.4: each size is between the least and the most, if the least isn't above
// the most; else the least.
func TestBetween(t *testing.T) {
	goOver(func(l []flexible.Item, h how) {
		for i, size := range mustSizes(t, l, h) {
			x := l[i]
			if size < x.Least || size > max(x.Least, x.Most) {
				t.Fatalf("%+v by %v: the box %d is %d", l, h, i, size)
			}
		}
	})
}

// P16.1: who neither grows nor shrinks has its first size.
func TestStays(t *testing.T) {
	goOver(func(l []flexible.Item, h how) {
		sizes := mustSizes(t, l, h)
		grow := doGrow(l, h)
		for i, first := range firsts(l) {
			if (grow && l[i].Grow == 0 || !grow && l[i].Shrink == 0) && sizes[i] != first {
				t.Fatalf("%+v by %v: %v, the box %d was %d", l, h, sizes, i, first)
			}
		}
	})
}

// P16.1: boxes that a room just fills, and those without a room, have their
// first sizes.
func TestJustFull(t *testing.T) {
	goOver(func(l []flexible.Item, h how) {
		want := firsts(l)
		if sizes := mustSizes(t, l, how{h.gap, -1}); !slices.Equal(sizes, want) {
			t.Fatalf("%+v without a room: %v, not %v", l, sizes, want)
		}
		if h.room = together(want) + around(l, h); h.room < 0 || h.room > maxCoord {
			return
		}
		if c := check(t, l, h); c.e == api.OK && !slices.Equal(c.sizes, want) {
			t.Fatalf("%+v by %v: %v, not %v", l, h, c.sizes, want)
		}
	})
}

// P16.1: how gaps and Outers are given doesn't count, only what they come to.
func TestAround(t *testing.T) {
	goOver(func(l []flexible.Item, h how) {
		if len(l) == 0 || h.room == -1 {
			return
		}
		sizes := mustSizes(t, l, h)
		other := slices.Clone(l)
		for i := range other {
			other[i].Outer = 0
		}
		other[len(l)-1].Outer = around(l, h)
		if got := mustSizes(t, other, how{0, h.room}); !slices.Equal(got, sizes) {
			t.Fatalf("%+v by %v: %v, not %v", l, h, got, sizes)
		}
	})
}
