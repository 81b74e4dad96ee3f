package inline_test

import (
	"math/rand"
	"slices"
	"testing"

	"windowpane/api"
	"windowpane/inline"
)

// mustPlace tells what comes of it, where nothing is refused.
func mustPlace(t *testing.T, a asked) (at []inline.Pos, height, base int) {
	t.Helper()
	at, height, base, e := a.place()
	if e != api.OK || len(at) != len(a.l) {
		t.Fatalf("%s: %s, error %d", a, told(at, height, base), e)
	}
	return at, height, base
}

// P11.2: each spot begins where the one ahead of it ends; if the line is wide
// enough, spots with no width below 0 stand within it.
func TestSideBySide(t *testing.T) {
	goOver(func(a asked) {
		at, _, _ := mustPlace(t, a)
		if len(at) == 0 {
			return
		}
		all, below := 0, false
		for i, x := range a.l {
			if at[i].X != at[0].X+all {
				t.Fatalf("%s: %v begins elsewhere", a, at[i])
			}
			all += x.Width
			below = below || x.Width < 0
		}
		if all > a.width || below {
			return
		}
		for i, x := range a.l {
			if at[i].X < 0 || at[i].X+x.Width > a.width {
				t.Fatalf("%s: %v is out of it", a, at[i])
			}
		}
	})
}

// P11.1, P11.2: what is left stands behind the spots, ahead of them, or as much
// behind them as ahead of them, or 1 more; where nothing is left, they begin
// where the line does.
func TestWhatIsLeft(t *testing.T) {
	goOver(func(a asked) {
		at, _, _ := mustPlace(t, a)
		if len(at) == 0 {
			return
		}
		last := len(at) - 1
		ahead, behind := at[0].X, a.width-at[last].X-a.l[last].Width
		if ahead+behind <= 0 || a.lines == atStart {
			if ahead != 0 {
				t.Fatalf("%s: begins at %d", a, ahead)
			}
			return
		}
		if a.lines == atEnd && behind != 0 {
			t.Fatalf("%s: ends %d ahead of the end", a, behind)
		}
		if a.lines == atMiddle && behind != ahead && behind != ahead+1 {
			t.Fatalf("%s: %d ahead, %d behind", a, ahead, behind)
		}
	})
}

// P11.3: spots that stand on the base have it where the line has it; those at
// the top and at the bottom have their edges where the line has them.
func TestOneBase(t *testing.T) {
	goOver(func(a asked) {
		at, height, base := mustPlace(t, a)
		for i, x := range a.l {
			is, want := at[i].Y, 0
			switch x.Align {
			case onBase:
				is, want = at[i].Y+x.Up, base
			case atBottom:
				is, want = at[i].Y+x.Up+x.Down, height
			}
			if is != want {
				t.Fatalf("%s: %v of %d, %d", a, at[i], height, base)
			}
		}
	})
}

// P11.3: each spot, and the line's own font, lies between the line's edges, if
// no height is below 0.
func TestBetweenTheEdges(t *testing.T) {
	goOver(func(a asked) {
		at, height, base := mustPlace(t, a)
		below := a.up+a.down < 0 || slices.ContainsFunc(a.l, func(x inline.Spot) bool { return x.Up+x.Down < 0 })
		if below {
			return
		}
		if base-a.up < 0 || base+a.down > height {
			t.Fatalf("%s: the font is out of %d, %d", a, height, base)
		}
		for i, x := range a.l {
			if at[i].Y < 0 || at[i].Y+x.Up+x.Down > height {
				t.Fatalf("%s: %v is out of %d", a, at[i], height)
			}
		}
	})
}

// P11.3: a line is no taller than it must be: something of it reaches each of
// its edges.
func TestNoTaller(t *testing.T) {
	goOver(func(a asked) {
		at, height, base := mustPlace(t, a)
		upper, lower := base == a.up, base+a.down == height
		for i, x := range a.l {
			upper = upper || x.Align == onBase && at[i].Y == 0
			lower = lower || at[i].Y+x.Up+x.Down == height && (x.Align != atBottom || at[i].Y == 0)
		}
		if !upper || !lower {
			t.Fatalf("%s: %s", a, told(at, height, base))
		}
	})
}

// P11.4: a spot's place upright doesn't hang on the order in which they stand,
// and neither do the line's height and its base.
func TestOrder(t *testing.T) {
	r := rand.New(rand.NewSource(3))
	goOver(func(a asked) {
		at, height, base := mustPlace(t, a)
		other := a
		other.l = make([]inline.Spot, len(a.l))
		order := r.Perm(len(a.l))
		for to, from := range order {
			other.l[to] = a.l[from]
		}
		otherAt, otherHeight, otherBase := mustPlace(t, other)
		if height != otherHeight || base != otherBase {
			t.Fatalf("%s: %d, %d, otherwise %d, %d", a, height, base, otherHeight, otherBase)
		}
		for to, from := range order {
			if otherAt[to].Y != at[from].Y {
				t.Fatalf("%s: %v, otherwise %v", a, at[from], otherAt[to])
			}
		}
	})
}

// P11.4: a line without spots is as tall as its font, whatever its width, and
// however it stands.
func TestWithoutSpots(t *testing.T) {
	for up := -20; up < 20; up++ {
		for down := -20; down < 20; down++ {
			for _, width := range []int{-maxCoord, -1, 0, 1, maxCoord} {
				for lines := range uint8(3) {
					_, height, base := mustPlace(t, asked{nil, up, down, width, lines})
					if height != up+down || base != up {
						t.Fatalf("%d %d: %d, %d", up, down, height, base)
					}
				}
			}
		}
	}
}
