package width_test

import (
	"testing"

	"windowpane/api"
)

// mustSolve tells what comes of it, where nothing is refused.
func mustSolve(t *testing.T, x toSolve) solved {
	t.Helper()
	s := x.solve()
	if s.e != api.OK {
		t.Fatalf("%+v: error %d", x, s.e)
	}
	return s
}

// isLeft tells what is left of what is around with so wide a content, free
// margins counting as 0.
func isLeft(x toSolve, wide int) int {
	n := x.of - x.Edges - wide
	if !x.AutoLeft {
		n -= x.Left
	}
	if !x.AutoRight {
		n -= x.Right
	}
	return n
}

// P12.4: what is told solves the equation.
func TestEquation(t *testing.T) {
	goOver(func(x toSolve) {
		s := mustSolve(t, x)
		if s.left+x.Edges+s.width+s.right != x.of {
			t.Fatalf("%+v: %v", x, s)
		}
	})
}

// P12.4: the width is between the least and the most, if the least isn't above
// the most.
func TestBetween(t *testing.T) {
	goOver(func(x toSolve) {
		s := mustSolve(t, x)
		if x.Least <= x.Most && (s.width < x.Least || s.width > x.Most) {
			t.Fatalf("%+v: %v", x, s)
		}
	})
}

// P12.2, P12.4: a width that is asked for, and lies between the least and the
// most, is the one that is told, however wide it is around, and whatever the
// margins are.
func TestWidthAskedFor(t *testing.T) {
	goOver(func(x toSolve) {
		s := mustSolve(t, x)
		if x.Is && x.Width >= x.Least && x.Width <= x.Most && s.width != x.Width {
			t.Fatalf("%+v: %v", x, s)
		}
	})
}

// P12.5: a left margin that isn't free is what was asked for.
func TestLeftStays(t *testing.T) {
	goOver(func(x toSolve) {
		s := mustSolve(t, x)
		if !x.AutoLeft && s.left != x.Left {
			t.Fatalf("%+v: %v", x, s)
		}
	})
}

// P12.5: so is a right one, if some margin is free, and something, or nothing,
// is left.
func TestRightStays(t *testing.T) {
	stayed := 0
	goOver(func(x toSolve) {
		s := mustSolve(t, x)
		if x.AutoRight || !x.AutoLeft || isLeft(x, s.width) < 0 {
			return
		}
		if s.right != x.Right {
			t.Fatalf("%+v: %v", x, s)
		}
		stayed++
	})
	if stayed < 10000 {
		t.Errorf("only %d", stayed)
	}
}

// P12.6: with both margins free they differ by 1 at most, if something is left,
// and the right one is the greater one then.
func TestInTheMiddle(t *testing.T) {
	odd, even := 0, 0
	goOver(func(x toSolve) {
		s := mustSolve(t, x)
		if !x.AutoLeft || !x.AutoRight || isLeft(x, s.width) < 0 {
			return
		}
		switch s.right - s.left {
		case 0:
			even++
		case 1:
			odd++
		default:
			t.Fatalf("%+v: %v", x, s)
		}
	})
	if odd < 1000 || even < 1000 {
		t.Errorf("only %d odd, %d even", odd, even)
	}
}

// P12.2: what a free margin holds counts for nothing, and neither does a Width
// that isn't asked for.
func TestWhatCountsForNothing(t *testing.T) {
	goOver(func(x toSolve) {
		s := mustSolve(t, x)
		for _, n := range []int{-maxCoord, -7, 0, 3, maxCoord} {
			other := x
			if x.AutoLeft {
				other.Left = n
			}
			if x.AutoRight {
				other.Right = n
			}
			if !x.Is {
				other.Width = n
			}
			if got := other.solve(); got != s {
				t.Fatalf("%+v: %v, not %v", other, got, s)
			}
		}
	})
}
