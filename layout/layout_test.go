package layout_test

import (
	"slices"
	"testing"

	"windowpane/api"
	"windowpane/layout"
	"windowpane/tree"
)

// check holds the layout of a document in a width against the chapter's words
// by hand, and tells it.
func check(t *testing.T, d api.Doc, wide int) ([]api.Frag, api.Errno) {
	t.Helper()
	before := tree.Copy(d)
	l, e := layout.Layout(d, wide)
	want, wantE := handLayout(d, wide)
	if e != wantE || !slices.Equal(l, want) {
		t.Fatalf("%s\nin %d: %s (%d)\nnot %s (%d)", written(d), wide, told(l), e, told(want), wantE)
	}
	if !tree.Same(before, d) {
		t.Fatalf("%s: the document was changed", written(before))
	}
	return l, e
}

// checkContents holds how wide the contents of a document's boxes are, and how
// tall in that width, against the chapter's words by hand, and tells whether
// one of these was refused.
func checkContents(t *testing.T, d api.Doc, key, wide int) (refused bool) {
	t.Helper()
	before := tree.Copy(d)
	narrow, widest, e := layout.Wide(d, key)
	if wantN, wantW, wantE := handWide(d, key); narrow != wantN || widest != wantW || e != wantE {
		t.Fatalf("%s\nWide %d: %d %d (%d)\nnot %d %d (%d)", written(d), key, narrow, widest, e, wantN, wantW, wantE)
	}
	tall, eTall := layout.Tall(d, key, wide)
	if want, wantE := handTall(d, key, wide); tall != want || eTall != wantE {
		t.Fatalf("%s\nTall %d by %d: %d (%d)\nnot %d (%d)", written(d), key, wide, tall, eTall, want, wantE)
	}
	if !tree.Same(before, d) {
		t.Fatalf("%s: the document was changed", written(before))
	}
	return e != api.OK || eTall != api.OK
}

// row is a document, a width, and its fragments as the chapter's examples tell
// them; or an error.
type row struct {
	doc  string
	wide int
	want string
	e    api.Errno
}

func checkRows(t *testing.T, rows []row) {
	t.Helper()
	for _, x := range rows {
		d := doc(x.doc)
		l, e := layout.Layout(d, x.wide)
		if got := told(l); got != x.want || e != x.e {
			t.Errorf("%s in %d:\n%s (%d), not\n%s (%d)", x.doc, x.wide, got, e, x.want, x.e)
		}
		check(t, d, x.wide)
		for key := range len(d.Nodes) + 2 {
			checkContents(t, d, key, min(max(x.wide, 0), maxCoord))
		}
	}
}

// P18.1: the rows of the chapter's examples.
func TestExamples(t *testing.T) {
	checkRows(t, []row{
		{"[]", 1000, "1.0 0 0 1000 0", 0},
		{"['ab']", 1000, "1.0 0 0 1000 1280; 2.1 0 0 1024 1280 'ab'", 0},
		{"['ab ab']", 1000, "1.0 0 0 1000 2560; 2.1 0 0 1024 1280 'ab'; 2.2 0 1280 1024 1280 'ab'", 0},
		{"[[h=50 mt=10 mb=10] [h=50 mt=30 mb=30]]", 1000, "1.0 0 0 1000 170; 2.0 0 10 1000 50; 3.0 0 90 1000 50", 0},
	})
}

// P18.1: texts alone: in one line, in several, without a character, of blanks
// and lines' ends alone, by each Ws and Lines; by each width around those that
// they need.
func TestTexts(t *testing.T) {
	checkRows(t, []row{
		{"[font=1 'aa a']", 112, "1.0 0 0 112 80; 2.1 0 0 112 80 'aa a'", 0},
		{"[font=1 'aa a']", 113, "1.0 0 0 113 80; 2.1 0 0 112 80 'aa a'", 0},
		{"[font=1 'aa a']", 111, "1.0 0 0 111 160; 2.1 0 0 64 80 'aa'; 2.2 0 80 32 80 'a'", 0},
		{"[font=1 'aa a']", 1, "1.0 0 0 1 160; 2.1 0 0 64 80 'aa'; 2.2 0 80 32 80 'a'", 0},
		{"[font=1 'aa a']", 0, "1.0 0 0 0 160; 2.1 0 0 64 80 'aa'; 2.2 0 80 32 80 'a'", 0},
		{"[font=1 'aa a']", maxWidth - 1, "1.0 0 0 2147483647 80; 2.1 0 0 112 80 'aa a'", 0},
		{"[font=1 'aa a']", maxWidth, "1.0 0 0 2147483648 80; 2.1 0 0 112 80 'aa a'", 0},
		{"[font=1 ' ~ aa ~ ~ a~']", 112, "1.0 0 0 112 80; 2.1 0 0 112 80 'aa a'", 0},
		{"[font=1 '']", 100, "1.0 0 0 100 0", 0},
		{"[font=1 ' ~ ']", 100, "1.0 0 0 100 0", 0},
		{"[font=1 '' ' ' '~']", 100, "1.0 0 0 100 0", 0},
		{"[font=1 ws=stay '']", 100, "1.0 0 0 100 0", 0},
		{"[font=1 ws=stay ' ~ ']", 10, "1.0 0 0 10 80; 2.1 0 0 16 80 ' '", 0},
		{"[font=1 ws=stay 'a ~ a']", 10, "1.0 0 0 10 80; 2.1 0 0 80 80 'a a'", 0},
		{"[font=1 ws=keep '']", 100, "1.0 0 0 100 0", 0},
		{"[font=1 ws=keep '  ']", 10, "1.0 0 0 10 80; 2.1 0 0 32 80 '  '", 0},
		{"[font=1 ws=keep '~']", 100, "1.0 0 0 100 80", 0},
		{"[font=1 ws=keep '~~']", 100, "1.0 0 0 100 160", 0},
		{"[font=1 ws=keep 'a~']", 100, "1.0 0 0 100 80; 2.1 0 0 32 80 'a'", 0},
		{"[font=1 ws=keep 'a~~i']", 100, "1.0 0 0 100 240; 2.1 0 0 32 80 'a'; 2.2 0 160 16 80 'i'", 0},
		{"[font=1 ws=keep lines=end 'a~~i']", 100, "1.0 0 0 100 240; 2.1 68 0 32 80 'a'; 2.2 84 160 16 80 'i'", 0},
		{"[font=1 ws=keep 'a' '~' 'i']", 100, "1.0 0 0 100 160; 2.1 0 0 32 80 'a'; 4.1 0 80 16 80 'i'", 0},
		{"[font=1 lines=end 'aa a']", 100, "1.0 0 0 100 160; 2.1 36 0 64 80 'aa'; 2.2 68 80 32 80 'a'", 0},
		{"[font=1 lines=mid 'ai a']", 81, "1.0 0 0 81 160; 2.1 16 0 48 80 'ai'; 2.2 24 80 32 80 'a'", 0},
		{"[font=1 lines=mid 'aaaa']", 100, "1.0 0 0 100 80; 2.1 0 0 128 80 'aaaa'", 0},
		{"[font=2 'aa a']", 223, "1.0 0 0 223 320; 2.1 0 0 128 160 'aa'; 2.2 0 160 64 160 'a'", 0},
	})
}

// P18.1: several texts in one run: clusters, blanks and parts of more than one
// text; texts that have nothing in a line, or in none.
func TestSeveralTexts(t *testing.T) {
	checkRows(t, []row{
		{"[font=1 'a' 'i']", 40, "1.0 0 0 40 80; 2.1 0 0 32 80 'a'; 3.1 32 0 16 80 'i'", 0},
		{"[font=1 'a ' 'i']", 40, "1.0 0 0 40 160; 2.1 0 0 32 80 'a'; 3.1 0 80 16 80 'i'", 0},
		{"[font=1 'a ' 'i']", 64, "1.0 0 0 64 80; 2.1 0 0 48 80 'a '; 3.1 48 0 16 80 'i'", 0},
		{"[font=1 'a ' ' i']", 80, "1.0 0 0 80 80; 2.1 0 0 48 80 'a '; 3.1 48 0 32 80 ' i'", 0},
		{"[font=1 'a ' ' i']", 79, "1.0 0 0 79 160; 2.1 0 0 32 80 'a'; 3.1 0 80 16 80 'i'", 0},
		{"[font=1 'a' ' ' 'i']", 64, "1.0 0 0 64 80; 2.1 0 0 32 80 'a'; 3.1 32 0 16 80 ' '; 4.1 48 0 16 80 'i'", 0},
		{"[font=1 'a' ' ' 'i']", 63, "1.0 0 0 63 160; 2.1 0 0 32 80 'a'; 4.1 0 80 16 80 'i'", 0},
		{"[font=1 'i a' 'a i']", 96, "1.0 0 0 96 160; 2.1 0 0 64 80 'i a'; 3.1 64 0 32 80 'a'; 3.2 0 80 16 80 'i'", 0},
		{"[font=1 'i a' 'a i']", 95, "1.0 0 0 95 240; 2.1 0 0 16 80 'i'; 2.2 0 80 32 80 'a'; 3.1 32 80 32 80 'a'; 3.2 0 160 16 80 'i'", 0},
		{"[font=1 'a' '' 'i']", 100, "1.0 0 0 100 80; 2.1 0 0 32 80 'a'; 4.1 32 0 16 80 'i'", 0},
		{"[font=1 lines=mid 'a' 'i']", 58, "1.0 0 0 58 80; 2.1 5 0 32 80 'a'; 3.1 37 0 16 80 'i'", 0},
		{"[font=1 ws=keep 'a~i' 'a~i']", 100, "1.0 0 0 100 240; 2.1 0 0 32 80 'a'; 2.2 0 80 16 80 'i'; 3.1 16 80 32 80 'a'; 3.2 0 160 16 80 'i'", 0},
		{"[font=1 'a b c d' 'e']", 0, "1.0 0 0 0 320; 2.1 0 0 32 80 'a'; 2.2 0 80 32 80 'b'; 2.3 0 160 32 80 'c'; 2.4 0 240 32 80 'd'; 3.1 32 240 32 80 'e'", 0},
	})
}

// P18.1: fonts are those of the box, or of what is around it; 16 around the
// root.
func TestFonts(t *testing.T) {
	checkRows(t, []row{
		{"['i' [font=2 'i' ['i' [font=1 'i']] [font=3 'i']] 'i']", 100,
			"1.0 0 0 100 3200; 2.1 0 0 256 1280 'i'; 3.0 0 1280 100 640; 4.1 0 1280 32 160 'i'; " +
				"5.0 0 1440 100 240; 6.1 0 1440 32 160 'i'; 7.0 0 1600 100 80; 8.1 0 1600 16 80 'i'; " +
				"9.0 0 1680 100 240; 10.1 0 1680 48 240 'i'; 11.1 0 1920 256 1280 'i'", 0},
		{"[font=1000 'i']", 100, "1.0 0 0 100 80000; 2.1 0 0 16000 80000 'i'", 0},
	})
}

// P18.1: boxes of DInline in lines: their widths, their margins and edges, how
// they stand upright, beside texts and one another.
func TestInline(t *testing.T) {
	checkRows(t, []row{
		{"[font=1 'a' [d=inline font=2 'a']]", 100, "1.0 0 0 100 180; 2.1 0 100 32 80 'a'; 3.0 32 0 64 160; 4.1 32 0 64 160 'a'", 0},
		{"[font=1 'a' [d=inline v=top font=2 'a']]", 100, "1.0 0 0 100 160; 2.1 0 0 32 80 'a'; 3.0 32 0 64 160; 4.1 32 0 64 160 'a'", 0},
		{"[font=1 'a' [d=inline w=1 h=30]]", 100, "1.0 0 0 100 80; 2.1 0 0 32 80 'a'; 3.0 32 30 1 30", 0},
		{"[font=1 'a' [d=inline w=1 h=30 v=top]]", 100, "1.0 0 0 100 80; 2.1 0 0 32 80 'a'; 3.0 32 0 1 30", 0},
		{"[font=1 'a' [d=inline w=1 h=30 v=bottom]]", 100, "1.0 0 0 100 80; 2.1 0 0 32 80 'a'; 3.0 32 50 1 30", 0},
		{"[font=1 [d=inline w=10 h=10 m=1,2,3,4 p=5 b=6] 'i']", 100, "1.0 0 0 100 80; 2.0 4 25 32 32; 3.1 38 0 16 80 'i'", 0},
		{"[font=1 [d=inline h=10 mt=-20 w=5]]", 100, "1.0 0 0 100 80; 2.0 0 50 5 10", 0},
		{"[font=1 [d=inline w=40 h=1] [d=inline w=40 h=2] [d=inline w=40 h=3]]", 80,
			"1.0 0 0 80 160; 2.0 0 59 40 1; 3.0 40 58 40 2; 4.0 0 137 40 3", 0},
		{"[font=1 [d=inline w=40] ' ' [d=inline w=40]]", 96, "1.0 0 0 96 80; 2.0 0 60 40 0; 3.1 40 0 16 80 ' '; 4.0 56 60 40 0", 0},
		{"[font=1 [d=inline w=40] ' ' [d=inline w=40]]", 95, "1.0 0 0 95 160; 2.0 0 60 40 0; 4.0 0 140 40 0", 0},
		{"[font=1 lines=end [d=inline w=40 h=200] 'i']", 100, "1.0 0 0 100 220; 2.0 44 0 40 200; 3.1 84 140 16 80 'i'", 0},
		{"[font=1 lines=mid 'i' [d=inline w=41 mt=7 mb=2]]", 100, "1.0 0 0 100 80; 2.1 21 0 16 80 'i'; 3.0 37 58 41 0", 0},
		{"[font=1 ws=keep 'a~' [d=inline w=5 h=5] '~i']", 100, "1.0 0 0 100 240; 2.1 0 0 32 80 'a'; 3.0 0 135 5 5; 4.1 0 160 16 80 'i'", 0},
		{"[font=1 [d=inline w=5000/ h=5 m=1000/]]", 100, "1.0 0 0 100 80; 2.0 10 45 50 5", 0},
		{"[font=1 [d=inline w=40 h=5 m=auto]]", 100, "1.0 0 0 100 80; 2.0 0 55 40 5", 0},
		{"[font=1 [d=inline w=40 h=5 whole p=1,2,3,4 b=10,20,3,4]]", 100, "1.0 0 0 100 80; 2.0 0 43 40 17", 0},
	})
}

// P18.1: a box of DInline that asks for no width fits what is in it, between
// narrow, wide and the room, and between its least and its most.
func TestInlineFits(t *testing.T) {
	const inside = "'a a']]"
	checkRows(t, []row{
		{"[font=1 [d=inline " + inside, 100, "1.0 0 0 100 100; 2.0 0 0 80 80; 3.1 0 0 80 80 'a a'", 0},
		{"[font=1 [d=inline " + inside, 80, "1.0 0 0 80 100; 2.0 0 0 80 80; 3.1 0 0 80 80 'a a'", 0},
		{"[font=1 [d=inline " + inside, 50, "1.0 0 0 50 180; 2.0 0 0 50 160; 3.1 0 0 32 80 'a'; 3.2 0 80 32 80 'a'", 0},
		{"[font=1 [d=inline " + inside, 20, "1.0 0 0 20 180; 2.0 0 0 32 160; 3.1 0 0 32 80 'a'; 3.2 0 80 32 80 'a'", 0},
		{"[font=1 [d=inline m=0,3,0,4 p=0,5,0,6 b=0,1,0,2 " + inside, 71, "1.0 0 0 71 180; 2.0 4 0 64 160; 3.1 12 0 32 80 'a'; 3.2 12 80 32 80 'a'", 0},
		{"[font=1 [d=inline m=0,3,0,4 p=0,5,0,6 b=0,1,0,2 " + inside, 101, "1.0 0 0 101 100; 2.0 4 0 94 80; 3.1 12 0 80 80 'a a'", 0},
		{"[font=1 [d=inline m=0,3,0,4 p=0,5,0,6 b=0,1,0,2 " + inside, 10, "1.0 0 0 10 180; 2.0 4 0 46 160; 3.1 12 0 32 80 'a'; 3.2 12 80 32 80 'a'", 0},
		{"[font=1 [d=inline minw=60 " + inside, 50, "1.0 0 0 50 180; 2.0 0 0 60 160; 3.1 0 0 32 80 'a'; 3.2 0 80 32 80 'a'", 0},
		{"[font=1 [d=inline minw=90 " + inside, 100, "1.0 0 0 100 100; 2.0 0 0 90 80; 3.1 0 0 80 80 'a a'", 0},
		{"[font=1 [d=inline maxw=40 " + inside, 100, "1.0 0 0 100 180; 2.0 0 0 40 160; 3.1 0 0 32 80 'a'; 3.2 0 80 32 80 'a'", 0},
		{"[font=1 [d=inline maxw=1000/ " + inside, 100, "1.0 0 0 100 180; 2.0 0 0 10 160; 3.1 0 0 32 80 'a'; 3.2 0 80 32 80 'a'", 0},
		{"[font=1 [d=inline minw=40 maxw=30 " + inside, 100, "1.0 0 0 100 180; 2.0 0 0 40 160; 3.1 0 0 32 80 'a'; 3.2 0 80 32 80 'a'", 0},
		{"[font=1 [d=inline w=90 maxw=85 " + inside, 100, "1.0 0 0 100 100; 2.0 0 0 85 80; 3.1 0 0 80 80 'a a'", 0},
		{"[font=1 [d=inline w=30 minw=85 " + inside, 100, "1.0 0 0 100 100; 2.0 0 0 85 80; 3.1 0 0 80 80 'a a'", 0},
		{"[font=1 [d=inline w=10 " + inside, 100, "1.0 0 0 100 180; 2.0 0 0 10 160; 3.1 0 0 32 80 'a'; 3.2 0 80 32 80 'a'", 0},
		{"[font=1 [d=inline [w=70 h=1] " + inside, 75, "1.0 0 0 75 181; 2.0 0 0 75 161; 3.0 2 0 70 1; 4.1 0 1 32 80 'a'; 4.2 0 81 32 80 'a'", 0},
		{"[font=1 [d=inline [d=inline w=30 h=9] 'a ' [d=inline 'i']]]", 90,
			"1.0 0 0 90 200; 2.0 0 0 90 180; 3.0 0 51 30 9; 4.1 30 0 32 80 'a'; 5.0 0 80 16 80; 6.1 0 80 16 80 'i'", 0},
	})
}
