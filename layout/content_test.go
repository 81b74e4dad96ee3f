package layout_test

import (
	"testing"

	"windowpane/api"
	"windowpane/layout"
)

// P18.2: how wide contents would be, narrow and wide: of texts, of boxes in
// lines, of boxes below one another, of flexible ones, within one another.
func TestWide(t *testing.T) {
	for _, x := range []struct {
		doc          string
		key          int
		narrow, wide int
	}{
		{"[]", 1, 0, 0},
		{"[w=500 p=7 font=1 'a']", 1, 32, 32},
		{"[font=1 'aa a']", 1, 64, 112},
		{"[font=1 '']", 1, 0, 0},
		{"[font=1 ' ~']", 1, 0, 0},
		{"[font=1 ws=stay 'aa ~ a']", 1, 112, 112},
		{"[font=1 ws=keep 'aa~a a']", 1, 80, 80},
		{"[font=1 'a ' 'a' 'a a']", 1, 64, 160},
		{"['a']", 1, 512, 512},
		{"[font=2 [font=3 ['a']]]", 3, 96, 96},
		{"[font=2 [font=3 ['a']]]", 2, 96, 96},
		{"[font=1 'a' [h=5] 'i a' [w=20]]", 1, 32, 64},
		{"[[w=50 m=1,2,3,4 p=5] [w=10]]", 1, 66, 66},
		{"[[w=50 m=auto p=5 b=6] [w=10]]", 1, 72, 72},
		{"[[w=50 whole p=5 b=6 ml=3] [w=10]]", 1, 53, 53},
		{"[[w=5000/ font=1 'a i']]", 1, 32, 64},
		{"[[w=9000/ minw=9000/ maxw=10/ ml=9000/ mr=9000/ font=1 'a i']]", 1, 32, 64},
		{"[[minw=5000/ whole p=3]]", 1, 6, 6},
		{"[font=1 [minw=50 'a i']]", 1, 50, 64},
		{"[font=1 [maxw=50 'a i']]", 1, 32, 50},
		{"[font=1 [maxw=50 minw=70 'a i']]", 1, 70, 70},
		{"[[w=50 minw=70] [w=90 maxw=20]]", 1, 70, 70},
		{"[[w=5 m=-10]]", 1, 0, 0},
		{"[[w=5 m=-10] [w=7]]", 1, 7, 7},
		{"[[basis=50] [grow=1]]", 1, 0, 0},
		{"[font=1 'a' [d=inline w=10] 'a']", 1, 32, 74},
		{"[font=1 'a' [d=inline w=40] 'a']", 1, 40, 104},
		{"[font=1 [d=inline 'a a' m=0,1,0,2 p=0,4,0,8] 'i']", 1, 47, 111},
		{"[font=1 [d=inline w=5000/ 'a a']]", 1, 32, 80},
		{"[font=1 [d=inline w=50 ml=-80] 'i']", 1, 0, 0},
		{"[font=1 [d=inline w=50 ml=-80]]", 1, 0, 0},
		{"[d=inline font=1 'a i' [w=40]]", 1, 40, 64},
		{"[d=flex gap=5 [w=10] [w=20] [w=30]]", 1, 70, 70},
		{"[d=flex dir=back gap=5 [w=10] [w=20] [w=30]]", 1, 70, 70},
		{"[d=flex dir=back wrap gap=5 [w=10] [w=20] [w=30]]", 1, 30, 70},
		{"[d=flex wrap gap=5 [w=10] [w=20] [w=30 ml=1]]", 1, 31, 71},
		{"[d=flex dir=col gap=5 [w=10] [w=30] [w=20]]", 1, 30, 30},
		{"[d=flex dir=colback wrap gap=5 [w=10] [w=20] [w=30]]", 1, 30, 30},
		{"[d=flex gap=5]", 1, 0, 0},
		{"[d=flex gap=5 [w=3]]", 1, 3, 3},
		{"[d=flex gap=5 font=1 ['aa a'] ['i i']]", 1, 64 + 16 + 5, 112 + 48 + 5},
		{"[d=flex wrap gap=5 font=1 ['aa a'] ['i i']]", 1, 64, 112 + 48 + 5},
		{"[d=flex dir=col gap=5 font=1 ['aa a'] ['i i']]", 1, 64, 112},
		{"[d=flex [w=3 m=-10] [w=5]]", 1, 0, 0},
		{"[d=flex wrap [w=3 m=-10] [w=50]]", 1, 50, 33},
		{"[d=flex dir=col [w=3 m=-10]]", 1, 0, 0},
		{"[d=flex [basis=50 w=3] [basis=50 m=auto,2,auto,1]]", 1, 6, 6},
		{"[d=flex [d=flex gap=2 [w=3] [w=4]] [d=flex dir=col [w=3] [w=4]] [d=flex wrap [w=3] [w=4]]]", 1, 9 + 4 + 4, 9 + 4 + 7},
		{"[font=1 [d=flex p=1 ['a a'] ['i']] 'i a']", 1, 32 + 16 + 2, 80 + 16 + 2},
	} {
		d := doc(x.doc)
		if narrow, wide, e := layout.Wide(d, x.key); narrow != x.narrow || wide != x.wide || e != api.OK {
			t.Errorf("%s, %d: %d %d (%d), not %d %d", x.doc, x.key, narrow, wide, e, x.narrow, x.wide)
		}
		for key := range len(d.Nodes) + 2 {
			checkContents(t, d, key, 70)
		}
	}
}

// P18.3: how tall contents are: in widths around those that they need, as they
// are asked for, laid out apart, by the font that is around them.
func TestTall(t *testing.T) {
	for _, x := range []struct {
		doc             string
		key, wide, want int
	}{
		{"[]", 1, 0, 0},
		{"[]", 1, maxCoord, 0},
		{"[font=1 'aa a']", 1, 113, 80},
		{"[font=1 'aa a']", 1, 112, 80},
		{"[font=1 'aa a']", 1, 111, 160},
		{"[font=1 'aa a']", 1, 1, 160},
		{"[font=1 'aa a']", 1, 0, 160},
		{"[font=1 'aa a']", 1, maxCoord, 80},
		{"[font=1 'aa a']", 1, maxWidth + 1, 80},
		{"[font=1 w=1 minw=2 maxw=3 p=9 m=7 'aa a']", 1, 112, 80},
		{"[h=50 'aa a']", 1, 0, 50},
		{"[h=50 maxh=7]", 1, 0, 7},
		{"[h=50 minh=70]", 1, 0, 70},
		{"[font=1 minh=90 'a']", 1, 0, 90},
		{"[font=1 maxh=10 'a']", 1, 0, 10},
		{"[font=1 maxh=10 minh=20 'a']", 1, 0, 20},
		{"[whole h=50 p=1,2,3,4 b=5]", 1, 0, 36},
		{"[[mt=9 mb=9 [h=5 mt=10 mb=3]]]", 2, 10, 18},
		{"[[mt=9 mb=9 [h=5 mt=10 mb=3]]]", 1, 10, 24},
		{"[[mt=9 mb=9 [h=5 mt=1000/ mb=3]]]", 2, 100, 18},
		{"[[mt=10 mb=3]]", 2, 10, 0},
		{"[font=2 [font=3 ['a' 'a']]]", 3, 0, 240},
		{"[font=2 [[font=1] 'a']]", 2, 0, 160},
		{"[font=2 [[font=1] 'a']]", 3, 0, 0},
		{"[d=flex [w=10 h=7] [w=10 h=9]]", 1, 0, 9},
		{"[d=flex wrap linegap=1 [w=10 h=7] [w=10 h=9]]", 1, 19, 17},
		{"[d=flex wrap linegap=1 [w=10 h=7] [w=10 h=9]]", 1, 20, 9},
		{"[d=flex dir=col gap=1 [w=10 h=7] [w=10 h=9]]", 1, 20, 17},
		{"[d=flex dir=col gap=1 h=5 [w=10 h=7] [w=10 h=9]]", 1, 20, 5},
		{"[d=flex align=stretch [h=50] [d=flex [h=7]]]", 3, 20, 7},
		{"[font=1 'a' [d=inline w=5000/ h=200]]", 1, 64, 220},
		{"[font=1 'a' [d=inline w=5000/ h=200]]", 1, 62, 300},
		{"[font=1 'a' [d=inline w=5000/ h=200]]", 3, 62, 200},
	} {
		d := doc(x.doc)
		if tall, e := layout.Tall(d, x.key, x.wide); tall != x.want || e != api.OK {
			t.Errorf("%s, %d by %d: %d (%d), not %d", x.doc, x.key, x.wide, tall, e, x.want)
		}
		for key := range len(d.Nodes) + 2 {
			for _, wide := range []int{x.wide, 0, 1, maxCoord} {
				checkContents(t, d, key, wide)
			}
		}
	}
}

// P18.1 to P18.3: where a box asks for its size, what is in it isn't asked how
// wide it would be: so that is not too great.
func TestNotAsked(t *testing.T) {
	// A box in a line that is a part of what is around, but would be a bit
	// wider by itself than a length may be.
	const long = " [d=inline w=1/ p=1 [d=flex [w=F] [w=F] [w=F] [w=F]]]]"
	for _, x := range []struct {
		doc string
		e   api.Errno
	}{
		{"[" + long, 0},
		{"[[" + long + "]", 0},
		{"[[d=inline w=1" + long + "]", 0},
		{"[[d=inline" + long + "]", api.ErrOver},
		{"[d=flex [w=1" + long + "]", 0},
		{"[d=flex [basis=1" + long + "]", 0},
		{"[d=flex [basis=5000/" + long + "]", 0},
		{"[d=flex [" + long + "]", api.ErrOver},
		{"[d=flex dir=col [w=1" + long + "]", 0},
		{"[d=flex dir=col [basis=1" + long + "]", api.ErrOver},
		{"[d=flex dir=col align=stretch [" + long + "]", 0},
		{"[d=flex dir=col [" + long + "]", api.ErrOver},
	} {
		d := doc(x.doc)
		if _, e := check(t, d, 1000); e != x.e {
			t.Errorf("%s: %d, not %d", x.doc, e, x.e)
		}
		for key := range len(d.Nodes) + 2 {
			checkContents(t, d, key, 1000)
		}
	}
	for _, x := range []struct {
		doc string
		e   api.Errno
	}{
		{"[" + long, api.ErrOver},
		{"[[w=1" + long + "]", 0},
		{"[[w=1/" + long + "]", api.ErrOver},
		{"[d=flex [w=1" + long + "]", 0},
		{"[d=flex [basis=1" + long + "]", api.ErrOver},
		{"[[d=inline w=1" + long + "]", 0},
		{"[[d=inline" + long + "]", api.ErrOver},
	} {
		if _, _, e := layout.Wide(doc(x.doc), 1); e != x.e {
			t.Errorf("Wide of %s: %d, not %d", x.doc, e, x.e)
		}
	}
}
