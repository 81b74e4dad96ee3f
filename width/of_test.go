package width_test

import (
	"math"
	"math/rand"
	"testing"

	"windowpane/api"
	"windowpane/style"
	"windowpane/width"
)

const maxLength = 1 << 38

func just(n int) api.Length { return api.Length{Kind: api.LFixed, N: n} }
func part(n int) api.Length { return api.Length{Kind: api.LPart, N: n} }

// margins are those of a style, the left one and the right one.
func margins(left, right api.Length) [4]api.Length {
	return [4]api.Length{api.Left: left, api.Right: right}
}

// edged are paddings and borders that come to 66 across: 2 and 20, 4 and 40.
func edged(s api.Style) api.Style {
	s.Padding, s.Border = [4]int{1, 2, 3, 4}, [4]int{10, 20, 30, 40}
	return s
}

func whole(s api.Style) api.Style {
	s.Whole = true
	return s
}

// free is what is asked for where nothing is: with margins that are free.
func free(a width.Asked) width.Asked {
	a.AutoLeft, a.AutoRight = true, true
	return a
}

// checkOf holds what a style asks for against what is written, and against the
// chapters' words.
func checkOf(t *testing.T, s api.Style, of int, want width.Asked, wantE api.Errno) {
	t.Helper()
	if got, e := width.Of(s, of); got != want || e != wantE {
		t.Errorf("%+v of %d: %+v, error %d, not %+v, error %d", s, of, got, e, want, wantE)
	}
	holdOf(t, s, of)
}

// holdOf holds what a style asks for against the chapters' words, and tells the
// error.
func holdOf(t *testing.T, s api.Style, of int) api.Errno {
	t.Helper()
	got, e := width.Of(s, of)
	want, wantE := ofByHand(s, of)
	if got != want || e != wantE {
		t.Fatalf("%+v of %d: %+v, error %d, not %+v, error %d", s, of, got, e, want, wantE)
	}
	return e
}

// lengthByHand tells what a length of a style that may be comes to, if it comes
// to anything, and whether that can be told.
func lengthByHand(l api.Length, of int) (n int, is, ok bool) {
	switch l.Kind {
	case api.LAuto:
		return 0, false, true
	case api.LFixed:
		return l.N, true, true
	}
	if !areLengths(of) || !areLengths(l.N*of/10000) {
		return 0, false, false
	}
	return l.N * of / 10000, true, true
}

// ofByHand tells what a style asks for, by the words of chapters 1, 6 and 12.
func ofByHand(s api.Style, of int) (width.Asked, api.Errno) {
	if !style.May(s) {
		return width.Asked{}, 60
	}
	a := width.Asked{Edges: s.Padding[1] + s.Border[1] + s.Padding[3] + s.Border[3]}
	for _, x := range []struct {
		l    api.Length
		to   *int
		size bool
		has  func(is bool)
	}{
		{s.Width, &a.Width, true, func(is bool) { a.Is = is }},
		{s.MinW, &a.Least, true, func(bool) {}},
		{s.MaxW, &a.Most, true, func(is bool) {
			if !is {
				a.Most = maxCoord
			}
		}},
		{s.Margin[3], &a.Left, false, func(is bool) { a.AutoLeft = !is }},
		{s.Margin[1], &a.Right, false, func(is bool) { a.AutoRight = !is }},
	} {
		n, is, ok := lengthByHand(x.l, of)
		if !ok {
			return width.Asked{}, 10
		}
		if is && x.size && s.Whole {
			n -= a.Edges
			if n < 0 {
				n = 0
			}
		}
		*x.to = n
		x.has(is)
	}
	return a, 0
}

// asking are styles, what is around, and what they ask for, by hand: each kind
// of length for widths, leasts, mosts and margins, of a content and of a whole
// box.
var asking = []struct {
	s    api.Style
	of   int
	want width.Asked
}{
	{api.Style{}, 100, free(width.Asked{Most: maxCoord})},
	{edged(api.Style{}), 100, free(width.Asked{Most: maxCoord, Edges: 66})},
	{whole(edged(api.Style{})), 100, free(width.Asked{Most: maxCoord, Edges: 66})},
	// a width
	{api.Style{Width: just(0)}, 100, free(width.Asked{Is: true, Most: maxCoord})},
	{edged(api.Style{Width: just(100)}), 7, free(width.Asked{Is: true, Width: 100, Most: maxCoord, Edges: 66})},
	{whole(edged(api.Style{Width: just(100)})), 7, free(width.Asked{Is: true, Width: 34, Most: maxCoord, Edges: 66})},
	{whole(edged(api.Style{Width: just(66)})), 7, free(width.Asked{Is: true, Most: maxCoord, Edges: 66})},
	{whole(edged(api.Style{Width: just(5)})), 7, free(width.Asked{Is: true, Most: maxCoord, Edges: 66})},
	{edged(api.Style{Width: part(5000)}), 7, free(width.Asked{Is: true, Width: 3, Most: maxCoord, Edges: 66})},
	{edged(api.Style{Width: part(5000)}), -7, free(width.Asked{Is: true, Width: -3, Most: maxCoord, Edges: 66})},
	{whole(edged(api.Style{Width: part(5000)})), 150, free(width.Asked{Is: true, Width: 9, Most: maxCoord, Edges: 66})},
	{whole(edged(api.Style{Width: part(5000)})), -150, free(width.Asked{Is: true, Most: maxCoord, Edges: 66})},
	{api.Style{Width: part(0)}, 100, free(width.Asked{Is: true, Most: maxCoord})},
	{api.Style{Width: part(100000)}, 100, free(width.Asked{Is: true, Width: 1000, Most: maxCoord})},
	// a least
	{edged(api.Style{MinW: just(100)}), 7, free(width.Asked{Least: 100, Most: maxCoord, Edges: 66})},
	{whole(edged(api.Style{MinW: just(100)})), 7, free(width.Asked{Least: 34, Most: maxCoord, Edges: 66})},
	{whole(edged(api.Style{MinW: just(5)})), 7, free(width.Asked{Most: maxCoord, Edges: 66})},
	{edged(api.Style{MinW: part(2500)}), 1000, free(width.Asked{Least: 250, Most: maxCoord, Edges: 66})},
	{whole(edged(api.Style{MinW: part(2500)})), 1000, free(width.Asked{Least: 184, Most: maxCoord, Edges: 66})},
	{edged(api.Style{MinW: part(2500)}), -1000, free(width.Asked{Least: -250, Most: maxCoord, Edges: 66})},
	// a most
	{api.Style{MaxW: just(0)}, 7, free(width.Asked{})},
	{edged(api.Style{MaxW: just(100)}), 7, free(width.Asked{Most: 100, Edges: 66})},
	{whole(edged(api.Style{MaxW: just(100)})), 7, free(width.Asked{Most: 34, Edges: 66})},
	{whole(edged(api.Style{MaxW: just(5)})), 7, free(width.Asked{Edges: 66})},
	{edged(api.Style{MaxW: part(2500)}), 1000, free(width.Asked{Most: 250, Edges: 66})},
	{whole(edged(api.Style{MaxW: part(2500)})), 1000, free(width.Asked{Most: 184, Edges: 66})},
	{edged(api.Style{MaxW: part(0)}), 1000, free(width.Asked{Edges: 66})},
	{api.Style{MinW: just(9), MaxW: just(5)}, 7, free(width.Asked{Least: 9, Most: 5})},
	// margins: one, the other, both; a whole box's are what they are
	{api.Style{Margin: margins(just(0), api.Length{})}, 7, width.Asked{Most: maxCoord, AutoRight: true}},
	{api.Style{Margin: margins(api.Length{}, just(0))}, 7, width.Asked{Most: maxCoord, AutoLeft: true}},
	{api.Style{Margin: margins(just(5), just(7))}, 7, width.Asked{Most: maxCoord, Left: 5, Right: 7}},
	{edged(api.Style{Margin: margins(just(-5), api.Length{})}), 7, width.Asked{Most: maxCoord, Left: -5, AutoRight: true, Edges: 66}},
	{edged(api.Style{Margin: margins(api.Length{}, just(-7))}), 7, width.Asked{Most: maxCoord, Right: -7, AutoLeft: true, Edges: 66}},
	{whole(edged(api.Style{Margin: margins(just(-5), just(7))})), 7, width.Asked{Most: maxCoord, Left: -5, Right: 7, Edges: 66}},
	{whole(edged(api.Style{Margin: margins(part(1000), part(2000))})), 90, width.Asked{Most: maxCoord, Left: 9, Right: 18, Edges: 66}},
	{api.Style{Margin: margins(part(5000), api.Length{})}, 7, width.Asked{Most: maxCoord, Left: 3, AutoRight: true}},
	{api.Style{Margin: margins(api.Length{}, part(5000))}, -7, width.Asked{Most: maxCoord, Right: -3, AutoLeft: true}},
	{api.Style{Margin: margins(part(0), part(0))}, 7, width.Asked{Most: maxCoord}},
	{api.Style{Margin: margins(just(-maxLength), just(maxLength))}, 7, width.Asked{Most: maxCoord, Left: -maxLength, Right: maxLength}},
	// those above and below count for nothing
	{api.Style{Margin: [4]api.Length{api.Top: just(3), api.Bottom: part(4)}}, 7, free(width.Asked{Most: maxCoord})},
	// edges at their greatest
	{api.Style{Padding: [4]int{0, maxLength, 0, maxLength}, Border: [4]int{0, maxLength, 0, maxLength}}, 7, free(width.Asked{Most: maxCoord, Edges: maxCoord})},
	{api.Style{Padding: [4]int{maxLength, 0, maxLength, 0}, Border: [4]int{maxLength, 0, maxLength, 0}}, 7, free(width.Asked{Most: maxCoord})},
	// all of it
	{
		whole(edged(api.Style{Width: part(5000), MinW: just(70), MaxW: part(9000), Margin: margins(part(100), just(-8))})), 1000,
		width.Asked{Is: true, Width: 434, Least: 4, Most: 834, Left: 10, Right: -8, Edges: 66},
	},
	// nothing hangs on what is around
	{api.Style{Width: just(9), MinW: just(1), MaxW: just(10), Margin: margins(just(2), just(3))}, maxCoord + 1, width.Asked{Is: true, Width: 9, Least: 1, Most: 10, Left: 2, Right: 3}},
	{api.Style{}, math.MaxInt, free(width.Asked{Most: maxCoord})},
	{api.Style{}, math.MinInt, free(width.Asked{Most: maxCoord})},
}

// P12.1: each kind of length, of a content and of a whole box.
func TestOf(t *testing.T) {
	for _, x := range asking {
		checkOf(t, x.s, x.of, x.want, 0)
	}
}

// parts are the lengths of a style of which each is asked for.
var parts = []struct {
	name string
	at   func(s *api.Style) *api.Length
}{
	{"Width", func(s *api.Style) *api.Length { return &s.Width }},
	{"MinW", func(s *api.Style) *api.Length { return &s.MinW }},
	{"MaxW", func(s *api.Style) *api.Length { return &s.MaxW }},
	{"Left", func(s *api.Style) *api.Length { return &s.Margin[api.Left] }},
	{"Right", func(s *api.Style) *api.Length { return &s.Margin[api.Right] }},
}

// P12.1: a part that is just a length, and one that is none, of each length
// that is asked for, alone, whatever the other ones are.
func TestOfOver(t *testing.T) {
	const tenth = maxCoord / 10
	for _, x := range asking {
		for _, p := range parts {
			s := x.s
			*p.at(&s) = part(100000)
			for _, of := range []int{tenth, -tenth, 0, 1} {
				if e := holdOf(t, s, of); e != api.OK {
					t.Errorf("%s of %d: error %d", p.name, of, e)
				}
			}
			for _, of := range append([]int{tenth + 1, -tenth - 1, maxCoord, -maxCoord}, noLengths...) {
				checkOf(t, s, of, width.Asked{}, 10)
			}
			// of what is no length nothing is a part, and not even nothing is
			*p.at(&s) = part(0)
			for _, of := range noLengths {
				checkOf(t, s, of, width.Asked{}, 10)
			}
			*p.at(&s) = part(10000)
			for _, of := range []int{maxCoord, -maxCoord} {
				holdOf(t, s, of)
			}
		}
	}
}

// P12.1: what isn't asked for is no length, and may be: margins above and
// below, a Basis.
func TestOfOthers(t *testing.T) {
	s := api.Style{Basis: part(100000), Margin: [4]api.Length{api.Top: part(100000), api.Bottom: part(100000)}}
	for _, of := range append([]int{0, maxCoord, -maxCoord}, noLengths...) {
		checkOf(t, s, of, free(width.Asked{Most: maxCoord}), 0)
	}
}

// mayNot are what makes a style one that may not be.
var mayNot = []func(s *api.Style){
	func(s *api.Style) { s.Display = 3 },
	func(s *api.Style) { s.Ws = 3 },
	func(s *api.Style) { s.Width = just(-1) },
	func(s *api.Style) { s.Width = part(100001) },
	func(s *api.Style) { s.Width = api.Length{N: 1} },
	func(s *api.Style) { s.Width = api.Length{Kind: 3} },
	func(s *api.Style) { s.MinW = just(maxLength + 1) },
	func(s *api.Style) { s.MinW = part(-1) },
	func(s *api.Style) { s.MaxW = just(maxCoord + 1) },
	func(s *api.Style) { s.MaxW = api.Length{Kind: 255, N: 1} },
	func(s *api.Style) { s.Margin[api.Left] = just(-maxLength - 1) },
	func(s *api.Style) { s.Margin[api.Left] = part(100001) },
	func(s *api.Style) { s.Margin[api.Left] = api.Length{Kind: 3} },
	func(s *api.Style) { s.Margin[api.Right] = just(maxLength + 1) },
	func(s *api.Style) { s.Margin[api.Right] = part(math.MinInt) },
	func(s *api.Style) { s.Margin[api.Right] = api.Length{N: -1} },
	func(s *api.Style) { s.Margin[api.Top] = just(math.MinInt) },
	func(s *api.Style) { s.Margin[api.Bottom] = just(math.MaxInt) },
	func(s *api.Style) { s.Padding[api.Left] = -1 },
	func(s *api.Style) { s.Padding[api.Top] = math.MinInt },
	func(s *api.Style) { s.Border[api.Right] = maxLength + 1 },
	func(s *api.Style) { s.Border[api.Bottom] = math.MaxInt },
	func(s *api.Style) { s.Height = part(0) },
	func(s *api.Style) { s.Basis = just(-1) },
	func(s *api.Style) { s.Order = 1001 },
	func(s *api.Style) { s.Font = -1 },
}

// P12.1: of a style that may not be ErrStyle, ahead of a part that is no
// length, whatever is around.
func TestOfMayNot(t *testing.T) {
	for _, x := range asking {
		for _, turn := range mayNot {
			s := x.s
			turn(&s)
			for _, of := range append([]int{x.of, 0, maxCoord}, noLengths...) {
				checkOf(t, s, of, width.Asked{}, 60)
				for _, p := range parts {
					over := x.s
					*p.at(&over) = part(100000)
					turn(&over)
					if !style.May(over) {
						checkOf(t, over, of, width.Asked{}, 60)
					}
				}
			}
		}
	}
}

// someStyle is a style that may be, by the seed, of lengths of all magnitudes.
func someStyle(r *rand.Rand) api.Style {
	some := func() int { return r.Intn(maxLength+1) >> r.Intn(39) }
	length := func(least int) api.Length {
		switch r.Intn(3) {
		case 0:
			return api.Length{}
		case 1:
			return part(r.Intn(api.MaxPart+1) >> r.Intn(17))
		}
		n := some()
		if r.Intn(2) == 0 {
			n = max(-n, least)
		}
		return just(n)
	}
	s := api.Style{Whole: r.Intn(2) == 0, Width: length(0), MinW: length(0), MaxW: length(0)}
	for side := range 4 {
		s.Margin[side], s.Padding[side], s.Border[side] = length(-maxLength), some(), some()
	}
	return s
}

// P12.1: styles by a fixed seed, of all that may be around.
func TestOfBySeed(t *testing.T) {
	r := rand.New(rand.NewSource(4))
	refused := 0
	for range 100000 {
		of := r.Intn(maxCoord+maxCoord/8) >> (r.Intn(3) * r.Intn(21))
		if r.Intn(4) == 0 {
			of = -of
		}
		switch holdOf(t, someStyle(r), of) {
		case api.ErrOver:
			refused++
		case api.ErrStyle:
			t.Fatal("a style that may not be")
		}
	}
	if refused < 2000 || refused > 50000 {
		t.Errorf("%d of 100000 refused", refused)
	}
}

// P12.1, P12.2: what a style asks for can be solved, unless it asks for less
// than nothing, or a margin that comes of it is no length.
func TestOfAndSolve(t *testing.T) {
	s := whole(edged(api.Style{Width: part(5000), MaxW: just(400), Margin: margins(api.Length{}, api.Length{})}))
	for _, x := range []struct {
		of   int
		want solved
	}{
		{1000, solved{left: 300, width: 334, right: 300}},
		{801, solved{left: 200, width: 334, right: 201}},
		{600, solved{left: 150, width: 234, right: 150}},
		{100, solved{left: 17, width: 0, right: 17}},
		{50, solved{left: 0, width: 0, right: -16}},
		{0, solved{left: 0, width: 0, right: -66}},
		{maxCoord, solved{left: (maxCoord - 400) / 2, width: 334, right: (maxCoord - 400) / 2}},
		{-1, solved{e: 2}},
	} {
		a, e := width.Of(s, x.of)
		if e != api.OK {
			t.Fatalf("%d: error %d", x.of, e)
		}
		checkTold(t, toSolve{x.of, a}, x.want)
	}
}

// P0.3: behind calls that are refused all are answered as ahead of them.
func TestOfRefusedChangesNothing(t *testing.T) {
	for _, x := range asking {
		checkOf(t, api.Style{Display: 3}, x.of, width.Asked{}, 60)
		checkOf(t, api.Style{MaxW: part(100000)}, maxCoord, width.Asked{}, 10)
		checkOf(t, x.s, x.of, x.want, 0)
	}
}
