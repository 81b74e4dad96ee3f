package right_test

import (
	"math"
	"math/rand"
	"slices"
	"testing"

	"windowpane/api"
)

// frag tells a fragment of that place and size.
func frag(x, y, w, h int) api.Frag { return api.Frag{X: x, Y: y, W: w, H: h} }

// wildNumbers are such as an int holds at its ends, about the bound, and small.
var wildNumbers = []int{
	math.MinInt, math.MinInt + 1, math.MinInt / 2, -maxCoord - 1, -maxCoord, 1 - maxCoord, -2, -1, 0, 1, 2, 3,
	maxCoord - 1, maxCoord, maxCoord + 1, math.MaxInt / 2, math.MaxInt - 1, math.MaxInt,
}

// wild tells so many fragments of whatever an int holds.
func wild(r *rand.Rand, many int) []api.Frag {
	l := make([]api.Frag, many)
	for i := range l {
		f := frag(oneOf(r, wildNumbers...), oneOf(r, wildNumbers...), oneOf(r, wildNumbers...), oneOf(r, wildNumbers...))
		f.Node, f.Part, f.Depth, f.Text = oneOf(r, wildNumbers...), r.Intn(3), r.Intn(3), oneOf(r, "", "a")
		l[i] = f
	}
	return l
}

// P19.3: points within fragments, at their corners and edges, one within and one
// without; of fragments that lie one upon the other the last one is hit.
func TestHit(t *testing.T) {
	one := []api.Frag{frag(10, 20, 30, 40)}
	two := []api.Frag{frag(0, 0, 10, 10), frag(5, 5, 10, 10)}
	in := []api.Frag{frag(-50, -50, 100, 100), frag(-10, -10, 20, 20), frag(-1, -1, 2, 2)}
	apart := []api.Frag{frag(0, 0, 5, 5), frag(5, 0, 5, 5), frag(0, 5, 5, 5), frag(20, 20, 5, 5)}
	flat := []api.Frag{frag(0, 0, 10, 10), frag(0, 0, 10, 0), frag(0, 0, 0, 10), frag(5, 5, -3, 3), frag(5, 5, 3, -3), frag(5, 5, -3, -3), frag(0, 0, 0, 0)}
	for _, x := range []struct {
		l          []api.Frag
		x, y, want int
	}{
		{nil, 0, 0, -1}, {[]api.Frag{}, 5, 5, -1}, {[]api.Frag{{}}, 0, 0, -1},
		{one, 10, 20, 0}, {one, 39, 59, 0}, {one, 10, 59, 0}, {one, 39, 20, 0}, {one, 25, 40, 0},
		{one, 9, 20, -1}, {one, 10, 19, -1}, {one, 40, 20, -1}, {one, 39, 60, -1}, {one, 9, 59, -1}, {one, 10, 60, -1}, {one, 40, 59, -1}, {one, 39, 19, -1},
		{one, 20, 10, -1}, {one, 20, 45, 0}, {one, 45, 20, -1},
		{two, 0, 0, 0}, {two, 4, 5, 0}, {two, 5, 4, 0}, {two, 5, 5, 1}, {two, 9, 9, 1}, {two, 14, 14, 1}, {two, 10, 4, -1}, {two, 15, 14, -1},
		{in, -50, -50, 0}, {in, 49, 49, 0}, {in, -10, 9, 1}, {in, 0, 0, 2}, {in, 1, 0, 1}, {in, -1, -1, 2}, {in, -2, -1, 1}, {in, 50, 0, -1},
		{apart, 4, 4, 0}, {apart, 5, 4, 1}, {apart, 4, 5, 2}, {apart, 5, 5, -1}, {apart, 24, 24, 3}, {apart, 12, 12, -1},
		{flat, 0, 0, 0}, {flat, 4, 4, 0}, {flat, 5, 5, 0}, {flat, 3, 6, 0}, {flat[1:], 0, 0, -1}, {flat[1:], 4, 4, -1}, {flat[1:], 5, 5, -1}, {flat[1:], 3, 5, -1},
	} {
		if got := checkHit(t, x.l, x.x, x.y); got != x.want {
			t.Errorf("Hit of %d, %d in %s: %d, not %d", x.x, x.y, told(x.l), got, x.want)
		}
	}
}

// P19.3: sums that no int holds are as int's addition says.
func TestHitWrapped(t *testing.T) {
	for _, x := range []struct {
		f    api.Frag
		x, y int
		want int
	}{
		{frag(math.MaxInt, 0, 1, 1), math.MaxInt, 0, -1},
		{frag(math.MaxInt-1, 0, 1, 1), math.MaxInt - 1, 0, 0},
		{frag(math.MaxInt-1, 0, 2, 1), math.MaxInt - 1, 0, -1},
		{frag(0, math.MaxInt, 1, 1), 0, math.MaxInt, -1},
		{frag(0, 1, 1, math.MaxInt), 0, 1, -1},
		{frag(0, 0, 1, math.MaxInt), 0, math.MaxInt - 1, 0},
		{frag(0, 0, 1, math.MaxInt), 0, math.MaxInt, -1},
		{frag(math.MinInt, math.MinInt, -1, -1), math.MinInt, math.MinInt, 0},
		{frag(math.MinInt, math.MinInt, -1, -1), math.MaxInt - 1, 0, 0},
		{frag(math.MinInt, math.MinInt, -1, -1), math.MaxInt, 0, -1},
		{frag(math.MinInt, 0, math.MaxInt, 1), -2, 0, 0},
		{frag(math.MinInt, 0, math.MaxInt, 1), -1, 0, -1},
		{frag(-1, 0, math.MinInt, 1), 5, 0, 0},
		{frag(-1, 0, math.MinInt, 1), math.MaxInt, 0, -1},
		{frag(0, 0, math.MinInt, 1), 0, 0, -1},
	} {
		if got := checkHit(t, []api.Frag{x.f}, x.x, x.y); got != x.want {
			t.Errorf("Hit of %d, %d in %s: %d, not %d", x.x, x.y, told([]api.Frag{x.f}), got, x.want)
		}
	}
	r := rand.New(rand.NewSource(7))
	hit, missed := 0, 0
	for range 60000 {
		if checkHit(t, wild(r, r.Intn(4)), oneOf(r, wildNumbers...), oneOf(r, wildNumbers...)) >= 0 {
			hit++
		} else {
			missed++
		}
	}
	if hit < 1500 || missed < 30000 {
		t.Errorf("only %d hit, %d missed", hit, missed)
	}
}

// goOverFew hands over all rows of up to so many of some fragments: of several
// sizes, 0 and below it among them, on both sides of 0, one in another, apart.
func goOverFew(many int, do func(l []api.Frag)) {
	some := []api.Frag{
		frag(0, 0, 2, 2), frag(-2, -1, 3, 2), frag(1, 1, 1, 1), frag(3, 2, 1, 2), frag(-3, 3, 2, 1),
		frag(5, 5, 0, 3), frag(-5, 5, 3, 0), frag(4, -4, -2, 3), frag(-4, -4, 3, -2), frag(5, -5, -1, -1), frag(0, 0, 0, 0),
	}
	var next func(l []api.Frag)
	next = func(l []api.Frag) {
		do(l)
		if len(l) < many {
			for _, f := range some {
				next(append(slices.Clip(l), f))
			}
		}
	}
	next(nil)
}

// P19.3, P19.8: all short rows, all points about them: what is hit covers the
// point, none behind it does; a point out of what they fill hits none.
func TestHitShort(t *testing.T) {
	many := 0
	goOverFew(3, func(l []api.Frag) {
		filled := checkFill(t, l)
		for x := -4; x <= 5; x++ {
			for y := -3; y <= 5; y++ {
				follows(t, l, x, y, checkHit(t, l, x, y), filled)
				many++
			}
		}
	})
	if many < 100000 {
		t.Errorf("only %d points", many)
	}
}

// follows asks whether what is hit, and what fragments fill, is as P19.8 says.
func follows(t *testing.T, l []api.Frag, x, y, hit int, filled [4]int) {
	t.Helper()
	if hit < -1 || hit >= len(l) || hit >= 0 && !covers(l[hit], x, y) {
		t.Fatalf("%d, %d in %s hits %d", x, y, told(l), hit)
	}
	for _, f := range l[hit+1:] {
		if covers(f, x, y) {
			t.Fatalf("%d, %d in %s hits %d", x, y, told(l), hit)
		}
	}
	out := x < filled[0] || x >= filled[0]+filled[2] || y < filled[1] || y >= filled[1]+filled[3]
	if hit >= 0 && out && l[hit].W > 0 && l[hit].H > 0 {
		t.Fatalf("%d, %d, out of %v, in %s hits %d", x, y, filled, told(l), hit)
	}
}

// P19.4: what fragments fill that lie apart, within one another, on both sides of
// 0; those with just one of width and height, or below 0, fill nothing.
func TestFill(t *testing.T) {
	for _, x := range []struct {
		l    []api.Frag
		want [4]int
	}{
		{nil, [4]int{}}, {[]api.Frag{}, [4]int{}}, {[]api.Frag{{}}, [4]int{}},
		{[]api.Frag{frag(5, 6, 7, 8)}, [4]int{5, 6, 7, 8}},
		{[]api.Frag{frag(-5, -6, 7, 8)}, [4]int{-5, -6, 7, 8}},
		{[]api.Frag{frag(-5, -6, 1, 1)}, [4]int{-5, -6, 1, 1}},
		{[]api.Frag{frag(5, 6, 7, 0)}, [4]int{}},
		{[]api.Frag{frag(5, 6, 0, 8)}, [4]int{}},
		{[]api.Frag{frag(5, 6, -7, 8)}, [4]int{}},
		{[]api.Frag{frag(5, 6, 7, -8)}, [4]int{}},
		{[]api.Frag{frag(5, 6, -7, -8)}, [4]int{}},
		{[]api.Frag{frag(5, 6, 0, 8), frag(5, 6, 7, 0), frag(9, 9, -1, 1)}, [4]int{}},
		{[]api.Frag{frag(0, 0, 1, 1), frag(10, 20, 3, 4)}, [4]int{0, 0, 13, 24}},
		{[]api.Frag{frag(10, 20, 3, 4), frag(0, 0, 1, 1)}, [4]int{0, 0, 13, 24}},
		{[]api.Frag{frag(10, 0, 3, 4), frag(0, 20, 1, 1)}, [4]int{0, 0, 13, 21}},
		{[]api.Frag{frag(-10, -20, 3, 4), frag(10, 20, 3, 4)}, [4]int{-10, -20, 23, 44}},
		{[]api.Frag{frag(-10, -20, 3, 4), frag(-30, -5, 3, 4)}, [4]int{-30, -20, 23, 19}},
		{[]api.Frag{frag(0, 0, 100, 100), frag(10, 20, 3, 4)}, [4]int{0, 0, 100, 100}},
		{[]api.Frag{frag(10, 20, 3, 4), frag(0, 0, 100, 100)}, [4]int{0, 0, 100, 100}},
		{[]api.Frag{frag(5, 5, 10, 10), frag(0, 0, 0, 50), frag(-9, 50, 50, 0), frag(99, 99, -5, 5), frag(-99, 7, 5, -1)}, [4]int{5, 5, 10, 10}},
		{[]api.Frag{frag(0, 0, 0, 50), frag(5, 5, 10, 10), frag(-9, 50, 50, 0)}, [4]int{5, 5, 10, 10}},
		{[]api.Frag{frag(0, 0, 0, 50), frag(-9, 50, 50, 0), frag(5, 5, 10, 10), frag(6, 4, 10, 10)}, [4]int{5, 4, 11, 11}},
	} {
		if got := checkFill(t, x.l); got != x.want {
			t.Errorf("Fill of %s: %v, not %v", told(x.l), got, x.want)
		}
	}
}

// P19.4: X, Y, W, H that are just lengths, and just none, of a fragment that has
// a width and a height and of such as have none, at each place: then nothing is
// filled, whatever else is there.
func TestFillBound(t *testing.T) {
	bodies := []api.Frag{frag(1, 2, 3, 4), frag(1, 2, 3, 0), frag(1, 2, 0, 4), frag(1, 2, -3, 4), frag(1, 2, -3, -4), frag(0, 0, 0, 0)}
	fields := []func(f *api.Frag) *int{
		func(f *api.Frag) *int { return &f.X }, func(f *api.Frag) *int { return &f.Y },
		func(f *api.Frag) *int { return &f.W }, func(f *api.Frag) *int { return &f.H },
	}
	filled, nothing := 0, 0
	for _, body := range bodies {
		for _, field := range fields {
			for _, n := range wildNumbers {
				one := body
				*field(&one) = n
				for at := range 4 {
					l := []api.Frag{frag(-5, 5, 10, 10), frag(7, 7, 0, 1), frag(-9, 40, 3, 3)}
					l = slices.Insert(l, at, one)
					got := checkFill(t, l)
					if isLength(n) == (got == [4]int{}) {
						t.Errorf("Fill of %s: %v", told(l), got)
					}
					if got == [4]int{} {
						nothing++
					} else {
						filled++
					}
					checkFill(t, l[at:at+1])
				}
			}
		}
	}
	if filled < 500 || nothing < 500 {
		t.Errorf("only %d filled, %d nothing", filled, nothing)
	}
	for _, x := range []struct {
		f    api.Frag
		want [4]int
	}{
		{frag(maxCoord, maxCoord, maxCoord, maxCoord), [4]int{maxCoord, maxCoord, maxCoord, maxCoord}},
		{frag(-maxCoord, -maxCoord, maxCoord, 1), [4]int{-maxCoord, -maxCoord, maxCoord, 1}},
		{frag(maxCoord+1, 0, 1, 1), [4]int{}}, {frag(0, maxCoord+1, 1, 1), [4]int{}},
		{frag(0, 0, maxCoord+1, 1), [4]int{}}, {frag(0, 0, 1, maxCoord+1), [4]int{}},
		{frag(-maxCoord-1, 0, 1, 1), [4]int{}}, {frag(0, -maxCoord-1, 1, 1), [4]int{}},
	} {
		if got := checkFill(t, []api.Frag{x.f}); got != x.want {
			t.Errorf("Fill of %s: %v, not %v", told([]api.Frag{x.f}), got, x.want)
		}
	}
	both := []api.Frag{frag(-maxCoord, -maxCoord, 1, 1), frag(maxCoord, maxCoord, maxCoord, maxCoord)}
	if got := checkFill(t, both); got != [4]int{-maxCoord, -maxCoord, 3 * maxCoord, 3 * maxCoord} {
		t.Errorf("Fill of both ends: %v", got)
	}
}

// P19.4: rows by a fixed seed, of small numbers, and of some that are wild; very
// many fragments.
func TestFillSeeds(t *testing.T) {
	r := rand.New(rand.NewSource(8))
	filled, nothing := 0, 0
	for range 40000 {
		l := make([]api.Frag, r.Intn(8))
		for i := range l {
			l[i] = frag(r.Intn(200)-100, r.Intn(200)-100, r.Intn(60)-15, r.Intn(60)-15)
		}
		if r.Intn(8) == 0 {
			l = append(l, wild(r, 1)...)
		}
		if checkFill(t, l) == [4]int{} {
			nothing++
		} else {
			filled++
		}
	}
	if filled < 20000 || nothing < 5000 {
		t.Errorf("only %d filled, %d nothing", filled, nothing)
	}
	many := make([]api.Frag, 3*api.MaxFrags)
	for i := range many {
		many[i] = frag(i, -i, 1, 1)
	}
	if got := checkFill(t, many); got != [4]int{0, 1 - 3*api.MaxFrags, 3 * api.MaxFrags, 3 * api.MaxFrags} {
		t.Errorf("Fill of many: %v", got)
	}
	if got := checkHit(t, many, 5, -5); got != 5 {
		t.Errorf("Hit of many: %d", got)
	}
}
