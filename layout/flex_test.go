package layout_test

import "testing"

// P18.1: flexible boxes side by side: where they begin by Justify, back, gaps,
// Orders and margins.
func TestRowPlaces(t *testing.T) {
	const two = " [w=10 h=20] [w=30 h=5]]"
	checkRows(t, []row{
		{"[d=flex" + two, 100, "1.0 0 0 100 20; 2.0 0 0 10 20; 3.0 10 0 30 5", 0},
		{"[d=flex gap=5" + two, 100, "1.0 0 0 100 20; 2.0 0 0 10 20; 3.0 15 0 30 5", 0},
		{"[d=flex dir=back gap=5" + two, 100, "1.0 0 0 100 20; 2.0 90 0 10 20; 3.0 55 0 30 5", 0},
		{"[d=flex just=end" + two, 100, "1.0 0 0 100 20; 2.0 60 0 10 20; 3.0 70 0 30 5", 0},
		{"[d=flex just=end dir=back" + two, 100, "1.0 0 0 100 20; 2.0 30 0 10 20; 3.0 0 0 30 5", 0},
		{"[d=flex just=mid" + two, 101, "1.0 0 0 101 20; 2.0 30 0 10 20; 3.0 40 0 30 5", 0},
		{"[d=flex just=between" + two, 100, "1.0 0 0 100 20; 2.0 0 0 10 20; 3.0 70 0 30 5", 0},
		{"[d=flex just=evenly" + two, 100, "1.0 0 0 100 20; 2.0 20 0 10 20; 3.0 50 0 30 5", 0},
		{"[d=flex just=mid" + two, 30, "1.0 0 0 30 20; 2.0 -5 0 10 20; 3.0 5 0 30 5", 0},
		{"[d=flex just=between" + two, 30, "1.0 0 0 30 20; 2.0 0 0 10 20; 3.0 10 0 30 5", 0},
		{"[d=flex p=3 b=4 m=5 just=end" + two, 100, "1.0 5 5 90 34; 2.0 48 12 10 20; 3.0 58 12 30 5", 0},
		{"[d=flex [w=10 h=20 order=1] [w=30 h=5] [w=1 h=1 order=-9]]", 100, "1.0 0 0 100 20; 2.0 31 0 10 20; 3.0 1 0 30 5; 4.0 0 0 1 1", 0},
		{"[d=flex [w=1 order=2] [w=2 order=1] [w=4 order=2] [w=8 order=1]]", 100, "1.0 0 0 100 0; 2.0 10 0 1 0; 3.0 0 0 2 0; 4.0 11 0 4 0; 5.0 2 0 8 0", 0},
		{"[d=flex [w=10 h=10 m=1,2,3,4] [w=10 h=10]]", 100, "1.0 0 0 100 14; 2.0 4 1 10 10; 3.0 16 0 10 10", 0},
		{"[d=flex [w=10 h=10 m=auto] [w=10 h=10 ml=1000/]]", 100, "1.0 0 0 100 10; 2.0 0 0 10 10; 3.0 20 0 10 10", 0},
		{"[d=flex just=end [w=10 h=10 m=1,2,3,4 p=1 b=2] [w=10 h=10]]", 100, "1.0 0 0 100 20; 2.0 72 1 16 16; 3.0 90 0 10 10", 0},
		{"[d=flex [w=10 ml=-5 h=1] [w=10 ml=-5 h=1]]", 100, "1.0 0 0 100 1; 2.0 -5 0 10 1; 3.0 0 0 10 1", 0},
		{"[d=flex [d=inline w=10 h=1] [d=flex w=10 h=1]]", 100, "1.0 0 0 100 1; 2.0 0 0 10 1; 3.0 10 0 10 1", 0},
	})
}

// P18.1: how wide flexible boxes side by side are: by their Basis, the width
// that they ask for, what is in them; growing and shrinking, from the least to
// the most.
func TestRowWidths(t *testing.T) {
	checkRows(t, []row{
		{"[d=flex [w=10 grow=1] [w=30 grow=1]]", 100, "1.0 0 0 100 0; 2.0 0 0 40 0; 3.0 40 0 60 0", 0},
		{"[d=flex [w=10 grow=1] [w=30 grow=2] [w=5]]", 100, "1.0 0 0 100 0; 2.0 0 0 28 0; 3.0 28 0 67 0; 4.0 95 0 5 0", 0},
		{"[d=flex gap=10 [w=10 grow=1] [w=30 grow=1]]", 100, "1.0 0 0 100 0; 2.0 0 0 35 0; 3.0 45 0 55 0", 0},
		{"[d=flex [w=10 grow=1 m=0,3,0,2 p=0,4,0,1] [w=30]]", 100, "1.0 0 0 100 0; 2.0 2 0 65 0; 3.0 70 0 30 0", 0},
		{"[d=flex [w=10 grow=1 maxw=20] [w=30 grow=1]]", 100, "1.0 0 0 100 0; 2.0 0 0 20 0; 3.0 20 0 80 0", 0},
		{"[d=flex [w=10 grow=1 maxw=2000/] [w=30 grow=1]]", 100, "1.0 0 0 100 0; 2.0 0 0 20 0; 3.0 20 0 80 0", 0},
		{"[d=flex [w=80 shrink=1] [w=80 shrink=1]]", 100, "1.0 0 0 100 0; 2.0 0 0 50 0; 3.0 50 0 50 0", 0},
		{"[d=flex [w=80 shrink=1 minw=60] [w=80 shrink=1]]", 100, "1.0 0 0 100 0; 2.0 0 0 60 0; 3.0 60 0 40 0", 0},
		{"[d=flex [w=80 shrink=3] [w=80 shrink=1] [w=10]]", 110, "1.0 0 0 110 0; 2.0 0 0 35 0; 3.0 35 0 65 0; 4.0 100 0 10 0", 0},
		{"[d=flex [w=80] [w=80]]", 100, "1.0 0 0 100 0; 2.0 0 0 80 0; 3.0 80 0 80 0", 0},
		{"[d=flex [basis=20 w=5] [w=5 basis=2500/] [w=5000/]]", 100, "1.0 0 0 100 0; 2.0 0 0 20 0; 3.0 20 0 25 0; 4.0 45 0 50 0", 0},
		{"[d=flex [basis=20 p=5] [basis=20 whole p=5] [basis=5 whole p=5]]", 100, "1.0 0 0 100 10; 2.0 0 0 30 10; 3.0 30 0 20 10; 4.0 50 0 10 10", 0},
		{"[d=flex [w=20 p=5] [w=20 whole p=5] [w=5000/ whole p=5]]", 100, "1.0 0 0 100 10; 2.0 0 0 30 10; 3.0 30 0 20 10; 4.0 50 0 50 10", 0},
		{"[d=flex [basis=20 maxw=7] [basis=20 minw=33] [w=9 minw=30 maxw=20]]", 100, "1.0 0 0 100 0; 2.0 0 0 7 0; 3.0 7 0 33 0; 4.0 40 0 30 0", 0},
		{"[d=flex [basis=20 maxw=7 grow=1] [basis=20 minw=33 grow=1]]", 100, "1.0 0 0 100 0; 2.0 0 0 7 0; 3.0 7 0 93 0", 0},
		{"[d=flex font=1 ['a a'] ['i'] [[w=7] 'i']]", 200, "1.0 0 0 200 80; 2.0 0 0 80 80; 3.1 0 0 80 80 'a a'; 4.0 80 0 16 80; 5.1 80 0 16 80 'i'; 6.0 96 0 16 80; 7.0 100 0 7 0; 8.1 96 0 16 80 'i'", 0},
		{"[d=flex font=1 [shrink=1 'a a'] [shrink=1 'i']]", 50, "1.0 0 0 50 160; 2.0 0 0 42 160; 3.1 0 0 32 80 'a'; 3.2 0 80 32 80 'a'; 4.0 42 0 8 80; 5.1 42 0 16 80 'i'", 0},
		{"[d=flex [grow=1] [grow=3]]", 100, "1.0 0 0 100 0; 2.0 0 0 25 0; 3.0 25 0 75 0", 0},
		{"[d=flex [w=F]]", 100, "1.0 0 0 100 0; 2.0 0 0 274877906944 0", 0},
		{"[d=flex [basis=0 w=5 grow=1] [basis=0 w=90 grow=1]]", 0, "1.0 0 0 0 0; 2.0 0 0 0 0; 3.0 0 0 0 0", 0},
	})
}

// P18.1: lines of flexible boxes: split by first sizes with what is around
// them, below one another with gaps; without wrapping one line.
func TestRowLines(t *testing.T) {
	checkRows(t, []row{
		{"[d=flex wrap gap=5 linegap=3 [w=60 h=10] [w=60 h=20] [w=20 h=5]]", 100, "1.0 0 0 100 33; 2.0 0 0 60 10; 3.0 0 13 60 20; 4.0 65 13 20 5", 0},
		{"[d=flex gap=5 linegap=3 [w=60 h=10] [w=60 h=20] [w=20 h=5]]", 100, "1.0 0 0 100 20; 2.0 0 0 60 10; 3.0 65 0 60 20; 4.0 130 0 20 5", 0},
		{"[d=flex wrap gap=5 linegap=3 [w=60 h=10] [w=35 h=20]]", 100, "1.0 0 0 100 20; 2.0 0 0 60 10; 3.0 65 0 35 20", 0},
		{"[d=flex wrap gap=5 linegap=3 [w=60 h=10] [w=35 h=20]]", 99, "1.0 0 0 99 33; 2.0 0 0 60 10; 3.0 0 13 35 20", 0},
		{"[d=flex wrap [w=60 h=10 ml=1] [w=38 h=20 pl=1]]", 100, "1.0 0 0 100 20; 2.0 1 0 60 10; 3.0 61 0 39 20", 0},
		{"[d=flex wrap [w=60 h=10 ml=1] [w=38 h=20 pl=1]]", 99, "1.0 0 0 99 30; 2.0 1 0 60 10; 3.0 0 10 39 20", 0},
		{"[d=flex wrap [w=60 maxw=10 h=10] [w=60 h=20]]", 100, "1.0 0 0 100 20; 2.0 0 0 10 10; 3.0 10 0 60 20", 0},
		{"[d=flex wrap [basis=60 h=10 shrink=1] [w=60 h=20 grow=1]]", 100, "1.0 0 0 100 30; 2.0 0 0 60 10; 3.0 0 10 100 20", 0},
		{"[d=flex wrap dir=back just=between [w=40 h=1] [w=40 h=2] [w=40 h=3]]", 100, "1.0 0 0 100 5; 2.0 60 0 40 1; 3.0 0 0 40 2; 4.0 60 2 40 3", 0},
		{"[d=flex wrap just=end [w=40 h=1 order=1] [w=70 h=2] [w=40 h=3]]", 100, "1.0 0 0 100 5; 2.0 60 2 40 1; 3.0 30 0 70 2; 4.0 20 2 40 3", 0},
		{"[d=flex wrap linegap=3 [w=200 h=1 shrink=1] [w=200 h=1]]", 100, "1.0 0 0 100 5; 2.0 0 0 100 1; 3.0 0 4 200 1", 0},
		{"[d=flex wrap h=50 linegap=3 [w=100 h=1] [w=100]]", 100, "1.0 0 0 100 50; 2.0 0 0 100 1; 3.0 0 4 100 0", 0},
		{"[d=flex wrap minh=50 linegap=3 [w=100 h=1] [w=100]]", 100, "1.0 0 0 100 50; 2.0 0 0 100 1; 3.0 0 4 100 0", 0},
		{"[d=flex wrap maxh=2 linegap=3 [w=100 h=1] [w=100]]", 100, "1.0 0 0 100 2; 2.0 0 0 100 1; 3.0 0 4 100 0", 0},
		{"[d=flex wrap linegap=3]", 100, "1.0 0 0 100 0", 0},
	})
}

// P18.1: across their line flexible boxes stand by Align; a line is as tall as
// the tallest of them, or, without wrapping, as the box.
func TestRowAcross(t *testing.T) {
	const three = " [w=10 h=20] [w=30 h=5 m=1,0,2,0 p=3] [w=1]]"
	checkRows(t, []row{
		{"[d=flex" + three, 100, "1.0 0 0 100 20; 2.0 0 0 10 20; 3.0 10 1 36 11; 4.0 46 0 1 0", 0},
		{"[d=flex align=end" + three, 100, "1.0 0 0 100 20; 2.0 0 0 10 20; 3.0 10 7 36 11; 4.0 46 20 1 0", 0},
		{"[d=flex align=mid" + three, 100, "1.0 0 0 100 20; 2.0 0 0 10 20; 3.0 10 4 36 11; 4.0 46 10 1 0", 0},
		{"[d=flex align=stretch" + three, 100, "1.0 0 0 100 20; 2.0 0 0 10 20; 3.0 10 1 36 11; 4.0 46 0 1 20", 0},
		{"[d=flex h=50 align=end" + three, 100, "1.0 0 0 100 50; 2.0 0 30 10 20; 3.0 10 37 36 11; 4.0 46 50 1 0", 0},
		{"[d=flex h=50 maxh=40 align=end" + three, 100, "1.0 0 0 100 40; 2.0 0 20 10 20; 3.0 10 27 36 11; 4.0 46 40 1 0", 0},
		{"[d=flex h=5 align=mid" + three, 100, "1.0 0 0 100 5; 2.0 0 -7 10 20; 3.0 10 -3 36 11; 4.0 46 2 1 0", 0},
		{"[d=flex minh=50 align=end" + three, 100, "1.0 0 0 100 50; 2.0 0 0 10 20; 3.0 10 7 36 11; 4.0 46 20 1 0", 0},
		{"[d=flex wrap h=50 align=stretch" + three, 100, "1.0 0 0 100 50; 2.0 0 0 10 20; 3.0 10 1 36 11; 4.0 46 0 1 20", 0},
		{"[d=flex h=50 align=stretch" + three, 100, "1.0 0 0 100 50; 2.0 0 0 10 20; 3.0 10 1 36 11; 4.0 46 0 1 50", 0},
		{"[d=flex whole h=50 p=10 align=stretch" + three, 100, "1.0 0 0 100 50; 2.0 10 10 10 20; 3.0 20 11 36 11; 4.0 56 10 1 30", 0},
		{"[d=flex align=stretch [w=1 h=20] [w=1 mt=3 pb=2 b=1]]", 100, "1.0 0 0 100 20; 2.0 0 0 1 20; 3.0 1 3 3 17", 0},
		{"[d=flex align=stretch [w=1 h=20] [w=1 mt=-3 mb=-4]]", 100, "1.0 0 0 100 20; 2.0 0 0 1 20; 3.0 1 -3 1 27", 0},
		{"[d=flex align=stretch h=5 [w=1 mt=30]]", 100, "1.0 0 0 100 5; 2.0 0 30 1 0", 0},
		{"[d=flex align=stretch [w=1 h=20] [w=1 maxh=7] [w=1 minh=25] [w=1 minh=9 maxh=4]]", 100, "1.0 0 0 100 25; 2.0 0 0 1 20; 3.0 1 0 1 7; 4.0 2 0 1 25; 5.0 3 0 1 9", 0},
		{"[d=flex align=stretch h=10 [w=1 maxh=7] [w=1 minh=25] [w=1 whole p=2 maxh=8]]", 100, "1.0 0 0 100 10; 2.0 0 0 1 7; 3.0 1 0 1 25; 4.0 2 0 4 8", 0},
		{"[d=flex [w=1 h=5 mt=-10] [w=1]]", 100, "1.0 0 0 100 0; 2.0 0 -10 1 5; 3.0 1 0 1 0", 0},
		{"[d=flex align=end [w=1 h=5 mt=-10]]", 100, "1.0 0 0 100 0; 2.0 0 -5 1 5", 0},
		{"[d=flex align=end wrap [w=60 h=5] [w=40 h=3] [w=60 h=7] [w=4 h=2]]", 100, "1.0 0 0 100 12; 2.0 0 0 60 5; 3.0 60 2 40 3; 4.0 0 5 60 7; 5.0 60 10 4 2", 0},
		{"[d=flex align=stretch wrap [w=60 h=5] [w=40] [w=60 h=7] [w=4]]", 100, "1.0 0 0 100 12; 2.0 0 0 60 5; 3.0 60 0 40 5; 4.0 0 5 60 7; 5.0 60 5 4 7", 0},
	})
}

// P18.1: flexible boxes one below the other: how tall, growing and shrinking,
// and where.
func TestColumn(t *testing.T) {
	const two = " [h=10 w=20] [h=5 w=30]]"
	checkRows(t, []row{
		{"[d=flex dir=col" + two, 100, "1.0 0 0 100 15; 2.0 0 0 20 10; 3.0 0 10 30 5", 0},
		{"[d=flex dir=col wrap gap=3 linegap=9" + two, 100, "1.0 0 0 100 18; 2.0 0 0 20 10; 3.0 0 13 30 5", 0},
		{"[d=flex dir=colback gap=3" + two, 100, "1.0 0 0 100 18; 2.0 0 8 20 10; 3.0 0 0 30 5", 0},
		{"[d=flex dir=colback gap=3 h=50" + two, 100, "1.0 0 0 100 50; 2.0 0 40 20 10; 3.0 0 32 30 5", 0},
		{"[d=flex dir=col h=50 just=end" + two, 100, "1.0 0 0 100 50; 2.0 0 35 20 10; 3.0 0 45 30 5", 0},
		{"[d=flex dir=col h=50 just=mid" + two, 100, "1.0 0 0 100 50; 2.0 0 17 20 10; 3.0 0 27 30 5", 0},
		{"[d=flex dir=col h=50 just=between" + two, 100, "1.0 0 0 100 50; 2.0 0 0 20 10; 3.0 0 45 30 5", 0},
		{"[d=flex dir=col h=50 just=evenly" + two, 100, "1.0 0 0 100 50; 2.0 0 12 20 10; 3.0 0 34 30 5", 0},
		{"[d=flex dir=col minh=50 just=end" + two, 100, "1.0 0 0 100 50; 2.0 0 35 20 10; 3.0 0 45 30 5", 0},
		{"[d=flex dir=col maxh=10 just=end" + two, 100, "1.0 0 0 100 10; 2.0 0 -5 20 10; 3.0 0 5 30 5", 0},
		{"[d=flex dir=col align=end" + two, 100, "1.0 0 0 100 15; 2.0 80 0 20 10; 3.0 70 10 30 5", 0},
		{"[d=flex dir=col align=mid" + two, 101, "1.0 0 0 101 15; 2.0 40 0 20 10; 3.0 35 10 30 5", 0},
		{"[d=flex dir=col p=1 b=2 align=end" + two, 100, "1.0 0 0 100 21; 2.0 77 3 20 10; 3.0 67 13 30 5", 0},
		{"[d=flex dir=col [h=10 w=20 order=1] [h=5 w=30]]", 100, "1.0 0 0 100 15; 2.0 0 5 20 10; 3.0 0 0 30 5", 0},
		{"[d=flex dir=col h=50 [h=10 w=1 grow=1] [h=5 w=1 grow=1]]", 100, "1.0 0 0 100 50; 2.0 0 0 1 28; 3.0 0 28 1 22", 0},
		{"[d=flex dir=col h=50 maxh=30 [h=10 w=1 grow=1] [h=5 w=1]]", 100, "1.0 0 0 100 30; 2.0 0 0 1 25; 3.0 0 25 1 5", 0},
		{"[d=flex dir=col minh=50 [h=10 w=1 grow=1] [h=5 w=1]]", 100, "1.0 0 0 100 50; 2.0 0 0 1 10; 3.0 0 10 1 5", 0},
		{"[d=flex dir=col h=10 gap=2 [h=10 w=1 shrink=1] [h=10 w=1 shrink=1]]", 100, "1.0 0 0 100 10; 2.0 0 0 1 4; 3.0 0 6 1 4", 0},
		{"[d=flex dir=col h=50 [h=10 w=1 grow=1 maxh=15] [h=5 w=1 grow=1 m=1,0,2,0 p=3]]", 100, "1.0 0 0 100 50; 2.0 0 0 1 15; 3.0 0 16 7 32", 0},
		{"[d=flex dir=col h=50 [h=10 w=1 shrink=1 minh=40] [h=50 w=1 shrink=1]]", 100, "1.0 0 0 100 50; 2.0 0 0 1 40; 3.0 0 40 1 10", 0},
		{"[d=flex dir=col [basis=20 h=10 w=1] [basis=5000/ h=10 w=1] [basis=20 w=1 p=3] [basis=20 whole w=1 p=3] [basis=5 whole w=1 p=3]]", 100,
			"1.0 0 0 100 82; 2.0 0 0 1 20; 3.0 0 20 1 10; 4.0 0 30 7 26; 5.0 0 56 6 20; 6.0 0 76 6 6", 0},
		{"[d=flex dir=col [basis=20 maxh=7 w=1] [minh=9 w=1] [maxh=3 w=1 [h=8]]]", 100, "1.0 0 0 100 19; 2.0 0 0 1 7; 3.0 0 7 1 9; 4.0 0 16 1 3; 5.0 0 16 1 8", 0},
		{"[d=flex dir=col [w=1 h=5 mt=-10]]", 100, "1.0 0 0 100 0; 2.0 0 -10 1 5", 0},
		{"[d=flex dir=colback [w=1 h=5 mt=-10]]", 100, "1.0 0 0 100 0; 2.0 0 -5 1 5", 0},
		{"[d=flex dir=col [w=1 h=5 m=1,2,3,4] [w=1 h=5 m=auto]]", 100, "1.0 0 0 100 14; 2.0 4 1 1 5; 3.0 0 9 1 5", 0},
		{"[d=flex dir=col align=end [w=1 h=5 m=1000/,2,3,4 p=1]]", 100, "1.0 0 0 100 20; 2.0 95 10 3 7", 0},
		{"[d=flex dir=col gap=5]", 100, "1.0 0 0 100 0", 0},
		{"[d=flex dir=col [mt=3 [mt=4 h=1 w=1]]]", 100, "1.0 0 0 100 8; 2.0 0 3 1 5; 3.0 0 7 1 1", 0},
	})
}

// P18.1: how wide flexible boxes below one another are: as asked for, as wide
// as the room, or as what is in them.
func TestColumnWidths(t *testing.T) {
	checkRows(t, []row{
		{"[d=flex dir=col font=1 ['a a']]", 100, "1.0 0 0 100 80; 2.0 0 0 80 80; 3.1 0 0 80 80 'a a'", 0},
		{"[d=flex dir=col font=1 ['a a']]", 50, "1.0 0 0 50 160; 2.0 0 0 50 160; 3.1 0 0 32 80 'a'; 3.2 0 80 32 80 'a'", 0},
		{"[d=flex dir=col font=1 ['a a']]", 20, "1.0 0 0 20 160; 2.0 0 0 32 160; 3.1 0 0 32 80 'a'; 3.2 0 80 32 80 'a'", 0},
		{"[d=flex dir=col font=1 align=end ['a a' ml=9 pr=3]]", 50, "1.0 0 0 50 160; 2.0 9 0 41 160; 3.1 9 0 32 80 'a'; 3.2 9 80 32 80 'a'", 0},
		{"[d=flex dir=col font=1 align=stretch ['i' m=1,2,3,4 p=5,6,7,8]]", 100, "1.0 0 0 100 96; 2.0 4 1 94 92; 3.1 12 6 16 80 'i'", 0},
		{"[d=flex dir=col align=stretch [m=200 h=1]]", 100, "1.0 0 0 100 401; 2.0 200 200 0 1", 0},
		{"[d=flex dir=col align=stretch [w=7 h=1] [w=2500/ h=1] [minw=200 h=1] [maxw=20 h=1] [maxw=20 minw=30 h=1] [w=9 maxw=8 h=1]]", 100,
			"1.0 0 0 100 6; 2.0 0 0 7 1; 3.0 0 1 25 1; 4.0 0 2 200 1; 5.0 0 3 20 1; 6.0 0 4 30 1; 7.0 0 5 8 1", 0},
		{"[d=flex dir=col [minw=200 h=1] [maxw=20 h=1 [w=50]] [w=9 minw=11 h=1]]", 100, "1.0 0 0 100 3; 2.0 0 0 200 1; 3.0 0 1 20 1; 4.0 0 1 50 0; 5.0 0 2 11 1", 0},
		{"[d=flex dir=col align=stretch [whole w=7 p=2] [whole minw=110 p=2]]", 100, "1.0 0 0 100 8; 2.0 0 0 7 4; 3.0 0 4 110 4", 0},
	})
}

// P18.1: flexible boxes within one another are laid out anew, where a height is
// forced on them that isn't the one that they have, and only there.
func TestAnew(t *testing.T) {
	checkRows(t, []row{
		{"[d=flex align=stretch [w=1 h=50] [d=flex w=20 align=end [w=5 h=10]]]", 100, "1.0 0 0 100 50; 2.0 0 0 1 50; 3.0 1 0 20 50; 4.0 1 40 5 10", 0},
		{"[d=flex align=stretch [w=1 h=50] [d=flex w=20 dir=col just=end [w=5 h=10 grow=1]]]", 100, "1.0 0 0 100 50; 2.0 0 0 1 50; 3.0 1 0 20 50; 4.0 1 0 5 50", 0},
		{"[d=flex align=stretch [w=1 h=50] [d=flex w=20 dir=colback [w=5 h=10]]]", 100, "1.0 0 0 100 50; 2.0 0 0 1 50; 3.0 1 0 20 50; 4.0 1 40 5 10", 0},
		{"[d=flex align=stretch [w=1 h=50] [d=flex w=20 align=stretch [w=5] [d=flex align=end [w=1 h=1]]]]", 100,
			"1.0 0 0 100 50; 2.0 0 0 1 50; 3.0 1 0 20 50; 4.0 1 0 5 50; 5.0 6 0 1 50; 6.0 6 49 1 1", 0},
		{"[d=flex align=stretch [w=1 h=10] [d=flex w=20 align=end maxh=10 [w=5 h=30] [w=5 h=5]]]", 100,
			"1.0 0 0 100 10; 2.0 0 0 1 10; 3.0 1 0 20 10; 4.0 1 0 5 30; 5.0 6 25 5 5", 0},
		{"[d=flex align=stretch [w=1 h=10] [d=flex w=20 align=end maxh=11 minh=11 [w=5 h=30] [w=5 h=5]]]", 100,
			"1.0 0 0 100 11; 2.0 0 0 1 10; 3.0 1 0 20 11; 4.0 1 0 5 30; 5.0 6 25 5 5", 0},
		{"[d=flex align=stretch [w=1 h=12] [d=flex w=20 align=end minh=10 [w=5 h=7] [w=5 h=5]]]", 100,
			"1.0 0 0 100 12; 2.0 0 0 1 12; 3.0 1 0 20 12; 4.0 1 5 5 7; 5.0 6 7 5 5", 0},
		{"[d=flex align=stretch [w=1 h=10] [d=flex dir=col w=20 minh=10 [w=5 h=7 grow=1]]]", 100,
			"1.0 0 0 100 10; 2.0 0 0 1 10; 3.0 1 0 20 10; 4.0 1 0 5 7", 0},
		{"[d=flex align=stretch [w=1 h=11] [d=flex dir=col w=20 minh=10 [w=5 h=7 grow=1]]]", 100,
			"1.0 0 0 100 11; 2.0 0 0 1 11; 3.0 1 0 20 11; 4.0 1 0 5 11", 0},
		{"[d=flex dir=col h=50 [d=flex w=20 grow=1 align=end [w=5 h=10]] [h=20 w=1]]", 100, "1.0 0 0 100 50; 2.0 0 0 20 30; 3.0 0 20 5 10; 4.0 0 30 1 20", 0},
		{"[d=flex dir=col h=50 [d=flex dir=col w=20 grow=1 [w=5 h=10 grow=1]] [h=20 w=1]]", 100, "1.0 0 0 100 50; 2.0 0 0 20 30; 3.0 0 0 5 30; 4.0 0 30 1 20", 0},
		{"[d=flex dir=col h=8 [d=flex dir=col w=20 shrink=1 [w=5 h=10 shrink=1]]]", 100, "1.0 0 0 100 8; 2.0 0 0 20 8; 3.0 0 0 5 8", 0},
		{"[d=flex dir=col h=50 [d=flex wrap w=20 grow=1 align=end [w=5 h=10] [w=5 h=5]]]", 100, "1.0 0 0 100 50; 2.0 0 0 20 50; 3.0 0 0 5 10; 4.0 5 5 5 5", 0},
		{"[d=flex dir=col [d=flex basis=40 w=20 align=end h=15 [w=5 h=10]]]", 100, "1.0 0 0 100 40; 2.0 0 0 20 40; 3.0 0 30 5 10", 0},
		{"[d=flex dir=col [d=flex basis=10 w=20 align=end maxh=10 [w=5 h=30] [w=5 h=5]]]", 100, "1.0 0 0 100 10; 2.0 0 0 20 10; 3.0 0 0 5 30; 4.0 5 25 5 5", 0},
		{"[d=flex dir=col [d=flex basis=9 w=20 align=end maxh=10 [w=5 h=30] [w=5 h=5]]]", 100, "1.0 0 0 100 9; 2.0 0 0 20 9; 3.0 0 -21 5 30; 4.0 5 4 5 5", 0},
		{"[font=1 d=flex align=stretch [w=20 h=200] [w=40 'a a' [h=5] 'i']]", 100,
			"1.0 0 0 100 245; 2.0 0 0 20 200; 3.0 20 0 40 245; 4.1 20 0 32 80 'a'; 4.2 20 80 32 80 'a'; 5.0 20 160 40 5; 6.1 20 165 16 80 'i'", 0},
		{"[font=1 d=flex align=stretch [w=20 h=300] [w=40 'a a' [h=5] 'i']]", 100,
			"1.0 0 0 100 300; 2.0 0 0 20 300; 3.0 20 0 40 300; 4.1 20 0 32 80 'a'; 4.2 20 80 32 80 'a'; 5.0 20 160 40 5; 6.1 20 165 16 80 'i'", 0},
		{"[d=flex align=stretch [w=1 h=50] [w=9 [d=flex h=9 align=stretch [w=1]]]]", 100, "1.0 0 0 100 50; 2.0 0 0 1 50; 3.0 1 0 9 50; 4.0 1 0 9 9; 5.0 1 0 1 9", 0},
	})
}
