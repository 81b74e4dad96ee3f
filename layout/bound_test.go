package layout_test

import (
	"math"
	"strings"
	"testing"

	"windowpane/api"
	"windowpane/layout"
)

// checkBound holds documents in the width 1000 against an error, and by hand.
func checkBound(t *testing.T, e api.Errno, docs ...string) {
	t.Helper()
	for _, s := range docs {
		d := doc(s)
		if _, got := check(t, d, 1000); got != e {
			t.Errorf("%s: %d, not %d", s, got, e)
		}
		for key := range len(d.Nodes) + 2 {
			for _, wide := range []int{0, 1000, maxLength, maxCoord} {
				checkContents(t, d, key, wide)
			}
		}
	}
}

// P18.1: where a fragment's X, Y, W or H is just a length, and just none.
func TestBoundOfFragments(t *testing.T) {
	checkBound(t, api.OK,
		"[w=F p=0,F,0,F b=0,F,0,0]",
		"[[w=F p=0,F,0,F b=0,F,0,0]]",
		"[h=F p=F,0,F,0 b=F,0,0,0]",
		"[x=F [x=F [x=F [x=F]]]]",
		"[y=F [y=F [y=F [y=F]]]]",
		"[x=-F [x=-F [x=-F [x=-F]]]]",
		"[y=-F [y=-F [y=-F [y=-F]]]]",
		"[x=F [x=F [x=F [x=F font=1 'a']]]]",
		"[y=F [y=F [y=F [y=F-80 font=1 ws=keep 'a~a']]]]",
		"[x=F [x=F [x=F [x=F-32 font=1 'a' 'i']]]]",
		"[x=F+0 [x=F [pl=F [x=F [w=1]]]]]",
		"[y=F [y=F [pt=F [y=F [w=1]]]]]",
	)
	checkBound(t, api.ErrOver,
		"[w=F p=0,F,0,F b=0,F,0,1]",
		"[[w=F p=0,F,0,F b=0,F,0,1]]",
		"[h=F p=F,0,F,0 b=F,0,1,0]",
		"[x=F [x=F [x=F [x=F [x=1]]]]]",
		"[y=F [y=F [y=F [y=F [y=1]]]]]",
		"[x=-F [x=-F [x=-F [x=-F [x=-1]]]]]",
		"[y=-F [y=-F [y=-F [y=-F [y=-1]]]]]",
		"[x=F [x=F [x=F [x=F font=1 'a' 'i']]]]",
		"[y=F [y=F [y=F [y=F-79 font=1 ws=keep 'a~a']]]]",
		"[x=F [x=F [x=F [x=F-31 font=1 'a' 'i']]]]",
		"[x=F [x=F [x=F [x=F pl=1 font=1 'i']]]]",
		"[y=F [y=F [y=F [y=F bt=1 font=1 'i']]]]",
		"[x=F [x=F [pl=F [x=F [x=1 w=1]]]]]",
		"[y=F [y=F [pt=F [y=F [y=1 w=1]]]]]",
	)
	// A box beyond the bound is too far for the layout alone; what is in it
	// may be within the bound again.
	for _, s := range []string{"[x=F [x=F [x=F [x=F [x=1 [x=-1]]]]]]", "[h=F p=F,0,F,0 b=F,0,1,0]"} {
		checkBound(t, api.ErrOver, s)
		if _, e := layout.Tall(doc(s), 1, 1000); e != api.OK {
			t.Errorf("Tall of %s: %d", s, e)
		}
	}
}

// P18.1, P18.3: where a part, a margin or a width of a box is just a length,
// and just none.
func TestBoundOfWidths(t *testing.T) {
	for _, name := range []string{"w", "minw", "maxw", "ml", "mr", "mt", "mb"} {
		checkBound(t, api.OK, "[w=F [m=0 "+name+"=40000/]]", "[w=F d=flex [m=0 h=1 w=1 "+name+"=20000/]]", "[w=F [d=inline m=0 v=top "+name+"=20000/]]")
		checkBound(t, api.ErrOver, "[w=F [m=0 "+name+"=40001/]]", "[w=F d=flex [m=0 h=1 "+name+"=40001/]]",
			"[w=F d=flex dir=col [m=0 h=1 "+name+"=40001/]]", "[w=F [d=inline m=0 "+name+"=40001/]]")
	}
	checkBound(t, api.OK,
		"[w=F d=flex [basis=40000/]]",
		"[w=F d=flex dir=col [basis=40001/]]",
		"[w=F [basis=40001/]]",
		"[w=F [w=1 m=0 pl=F pr=F bl=F [w=0 h=1]]]",
		"[w=0 [ml=F p=0,F,0,F b=0,F,0,0]]",
		"[w=1000 ml=F p=0,F,0,F b=0,F,0,0]",
	)
	checkBound(t, api.ErrOver,
		"[w=F d=flex [basis=40001/]]",
		"[w=F d=flex [basis=1 w=40001/]]",
		"[w=0 [ml=F p=0,F,0,F b=0,F,0,0 w=1]]",
		"[w=1001 ml=F p=0,F,0,F b=0,F,0,0]",
	)
}

// P18.1, P18.3: where what lines are filled with, or what is placed in them, is
// just a length, and just none.
func TestBoundOfLines(t *testing.T) {
	const back = "[d=inline m=0,-F,0,-F] [d=inline m=0,-F,0,-F]"
	checkBound(t, api.OK,
		"[[d=inline w=F p=0,F,0,F b=0,F,0,0]]",
		"["+back+"]",
		"[w=0 lines=end "+back+"]",
		"[w=F lines=end [d=inline m=0,-F,0,-F] [d=inline mr=-F]]",
		"[[d=inline v=top h=F p=F,0,F,0 b=F,0,0,0]]",
		"[[d=inline v=bottom h=F p=F,0,F,0 b=F,0,0,0]]",
		"[font=1 [d=inline h=F p=F,0,F,0 b=F-20,0,0,0]]",
		"[font=1 [d=inline mt=-20 h=F p=F,0,F,0 b=F,0,0,0]]",
	)
	checkBound(t, api.ErrOver,
		"[[d=inline ml=1 w=F p=0,F,0,F b=0,F,0,0]]",
		"[[d=inline mr=1 w=F p=0,F,0,F b=0,F,0,0]]",
		"["+back+" [d=inline mr=-1]]",
		"[w=1 lines=end "+back+"]",
		"[w=F lines=end [d=inline m=0,-F,0,-F] [d=inline mr=-F] [d=inline mr=-1]]",
		"[[d=inline v=top mt=1 h=F p=F,0,F,0 b=F,0,0,0]]",
		"[[d=inline v=bottom mb=1 h=F p=F,0,F,0 b=F,0,0,0]]",
		"[font=1 [d=inline h=F p=F,0,F,0 b=F-19,0,0,0]]",
		"[font=1 [d=inline mt=-19 h=F p=F,0,F,0 b=F,0,0,0]]",
		"[h=1 ws=keep '~~~~~' [d=inline v=top h=F p=F,0,F,0 b=F,0,0,0] [d=inline v=top h=F p=F,0,F,0 b=F,0,0,0]]",
	)
}

// P18.1, P18.3: where what is stacked, or told of that, is just a length, and
// just none.
func TestBoundOfStacks(t *testing.T) {
	const tall = "[h=F p=F,0,F,0 b=F,0,0,0]"
	checkBound(t, api.OK,
		"["+tall+"]",
		"["+tall+" []]",
		"[[mt=F h=F p=F,0,F,0]]",
		"[["+tall+"]]",
		"[h=5 "+tall+"]",
		"["+tall+" [mt=-1 h=1]]",
		"["+tall+" [mt=-F mb=-F]]",
	)
	checkBound(t, api.ErrOver,
		"["+tall+" [h=1]]",
		"[h=5 "+tall+" [h=1]]",
		"["+tall+" [mt=1]]",
		"[[h=F p=F,0,F,0 b=F,0,1,0]]",
		"[h=5 [h=F p=F,0,F,0 b=F,0,1,0]]",
		"[[mt=F h=F p=F,0,F,0 b=1,0,0,0]]",
		"["+tall+" 'i']",
		"[["+tall+"] [[h=1]]]",
	)
}

// P18.1, P18.3: where what flexible boxes side by side are handed on with, or
// what comes of them, is just a length, and just none.
func TestBoundOfRows(t *testing.T) {
	const wide, tall = "w=F p=0,F,0,F b=0,F,0,0", "h=F p=F,0,F,0 b=F,0,0,0"
	checkBound(t, api.OK,
		"[d=flex [ml=-1000 "+wide+"]]",
		"[d=flex [ml=-1000 mr=1000 "+wide+"]]",
		"[d=flex wrap ["+wide+"]]",
		"[w=0 d=flex [m=0,-F,0,-F] [m=0,-F,0,-F]]",
		"[w=0 d=flex just=end [m=0,-F,0,-F] [m=0,-F,0,-F grow=1]]",
		"[w=0 d=flex just=mid dir=back [m=0,-F,0,-F] [m=0,-F,0,-F]]",
		"[d=flex [d=flex [w=F] [w=F] [w=F] [w=F]]]",
		"[d=flex [[d=flex [w=F] [w=F] [w=F] [w=F] [w=1]]]]",
		"[d=flex ["+tall+"]]",
		"[d=flex [mt=-1 mb=1 "+tall+"]]",
		"[d=flex align=end ["+tall+"] [w=1]]",
		"[d=flex align=mid ["+tall+"] [mt=-F mb=-F]]",
		"[d=flex wrap linegap=F [w=1000 h=F p=F,0,0,0] [w=1 h=F]]",
		"[d=flex wrap linegap=F h=5 [w=1000 h=F p=F,0,0,0] [w=1 h=F]]",
	)
	checkBound(t, api.ErrOver,
		"[d=flex [ml=1 "+wide+"]]",
		"[d=flex wrap [mr=1 "+wide+"]]",
		"[w=0 d=flex [m=0,-F,0,-F] [m=0,-F,0,-F] [mr=-1]]",
		"[w=1 d=flex [m=0,-F,0,-F] [m=0,-F,0,-F]]",
		"[w=1 d=flex just=end [m=0,-F,0,-F] [m=0,-F,0,-F grow=1]]",
		"[d=flex [d=flex [w=F] [w=F] [w=F] [w=F] [w=1]]]",
		"[d=flex [mt=1 "+tall+"]]",
		"[d=flex [mb=1 "+tall+"]]",
		"[d=flex h=1 [mb=1 "+tall+"]]",
		"[d=flex align=end ["+tall+"] [mt=-F mb=-F]]",
		"[d=flex align=end ["+tall+"] [mt=-1]]",
		"[d=flex wrap linegap=F [w=1000 h=F p=F,0,0,0] [w=1 h=F mt=1]]",
		"[d=flex wrap linegap=F h=5 [w=1000 h=F p=F,0,0,0] [w=1 h=F mt=1]]",
	)
}

// P18.1, P18.3: where what flexible boxes below one another are handed on with,
// or what comes of them, is just a length, and just none.
func TestBoundOfColumns(t *testing.T) {
	const tall, many = "h=F p=F,0,F,0 b=F,0,0,0", "[h=F] [h=F] [h=F] [h=F]"
	checkBound(t, api.OK,
		"[d=flex dir=col ["+tall+"]]",
		"[d=flex dir=col [mt=-1 mb=1 "+tall+"]]",
		"[d=flex dir=col "+many+"]",
		"[d=flex dir=col h=5 "+many+"]",
		"[d=flex dir=colback h=F "+many+"]",
		"[d=flex dir=col gap=1 "+many[:len(many)-1]+" mt=-3]]",
		"[d=flex dir=col [m=-F,0,-F,0] [m=-F,0,-F,0]]",
		"[d=flex dir=col [w=F p=0,F,0,F b=0,F,0,0]]",
		"[w=0 d=flex dir=col align=end [w=F p=0,F,0,F b=0,F,0,0]]",
	)
	checkBound(t, api.ErrOver,
		"[d=flex dir=col [mt=1 "+tall+"]]",
		"[d=flex dir=col [mb=1 "+tall+"]]",
		"[d=flex dir=col "+many+" [h=1]]",
		"[d=flex dir=col h=5 "+many+" [h=1]]",
		"[d=flex dir=col h=5 "+many+" [mt=1]]",
		"[d=flex dir=col gap=1 "+many[:len(many)-1]+" mt=-2]]",
		"[d=flex dir=col [m=-F,0,-F,0] [m=-F,0,-F,0] [mt=-1]]",
		"[d=flex dir=col [ml=1 w=F p=0,F,0,F b=0,F,0,0]]",
		"[w=0 d=flex dir=col align=end [ml=1 w=F p=0,F,0,F b=0,F,0,0]]",
	)
}

// P18.2: what contents come to isn't asked whether it is a length, but what
// lines are filled with is.
func TestBoundOfContents(t *testing.T) {
	for _, x := range []struct {
		doc          string
		narrow, wide int
		e            api.Errno
	}{
		{"[d=flex [w=F] [w=F] [w=F] [w=F] [w=F]]", 5 * maxLength, 5 * maxLength, 0},
		{"[d=flex wrap [w=F] [w=F] [w=F] [w=F] [w=F]]", maxLength, 5 * maxLength, 0},
		{"[[m=0,F,0,F w=F p=0,F,0,F b=0,F,0,F]]", 7 * maxLength, 7 * maxLength, 0},
		{"[[d=flex [w=F] [w=F] [w=F] [w=F] [w=F]]]", maxCoord, maxCoord, 0},
		{"[[d=inline w=F p=0,F,0,F b=0,F,0,0]]", maxCoord, maxCoord, 0},
		{"[[d=inline w=F p=0,F,0,F b=0,F,0,1]]", 0, 0, api.ErrOver},
		{"[[d=inline w=F] [d=inline w=F] [d=inline w=F] [d=inline w=F]]", maxLength, maxCoord, 0},
		{"[[d=inline w=F] [d=inline w=F] [d=inline w=F] [d=inline w=F+0] [d=inline w=1]]", maxLength, maxCoord, 0},
		{"[[d=inline m=0,-F,0,-F] [d=inline m=0,-F,0,-F]]", 0, 0, 0},
		{"[[d=inline m=0,-F,0,-F] [d=inline m=0,-F,0,-F] [d=inline mr=-1]]", 0, 0, api.ErrOver},
		{"[h=5 w=1000000000 [mt=100000/ w=100000/ ml=100000/]]", 0, 0, 0},
	} {
		d := doc(x.doc)
		if narrow, wide, e := layout.Wide(d, 1); narrow != x.narrow || wide != x.wide || e != x.e {
			t.Errorf("%s: %d %d (%d), not %d %d (%d)", x.doc, narrow, wide, e, x.narrow, x.wide, x.e)
		}
		checkContents(t, d, 1, 1000)
	}
}

// may is a document that may be, of a text and of boxes of each kind.
func may() api.Doc { return doc("[font=1 'a' [d=inline] [d=flex [h=1]] [h=2]]") }

// tooMuch is a document that may be, and can't be laid out in any width.
func tooMuch() api.Doc { return doc("[h=F p=F,0,F,0 b=F,0,F,0 [h=F p=F,0,F,0 b=F,0,F,0 'a']]") }

// mayNot tells documents that may not be, of one that may.
func mayNot(d func() api.Doc) []api.Doc {
	made := func(do func(d *api.Doc)) api.Doc {
		one := d()
		do(&one)
		return one
	}
	return []api.Doc{
		{}, {Next: 5}, {Nodes: []api.Node{}, Next: 1},
		made(func(d *api.Doc) { d.Next = 0 }),
		made(func(d *api.Doc) { d.Next = math.MaxInt }),
		made(func(d *api.Doc) { d.Next = len(d.Nodes) }),
		made(func(d *api.Doc) { d.Nodes[0].Depth = 1 }),
		made(func(d *api.Doc) { d.Nodes[1].Depth = 2 }),
		made(func(d *api.Doc) { d.Nodes[1].Depth = math.MinInt }),
		made(func(d *api.Doc) { d.Nodes[1].Key = 1 }),
		made(func(d *api.Doc) { d.Nodes[1].Key = 0 }),
		made(func(d *api.Doc) { d.Nodes[0].Kind = api.NkText }),
		made(func(d *api.Doc) { d.Nodes[0].Kind = 2 }),
		made(func(d *api.Doc) { d.Nodes[0].Text = "a" }),
		made(func(d *api.Doc) { d.Nodes[0].Style.Display = 3 }),
		made(func(d *api.Doc) { d.Nodes[0].Style.Padding[api.Left] = -1 }),
		made(func(d *api.Doc) { d.Nodes[0].Style.OffX = math.MaxInt }),
		made(func(d *api.Doc) { d.Nodes[0].Style.Width = api.Length{Kind: api.LFixed, N: maxLength + 1} }),
		made(func(d *api.Doc) { d.Nodes[0].Style.Height = api.Length{Kind: api.LPart} }),
		made(func(d *api.Doc) { d.Nodes[0].Style.Font = 1001 }),
		made(func(d *api.Doc) { d.Nodes[len(d.Nodes)-1].Style.Justify = api.Stretch }),
		doc("[d=flex 'a']"), doc("[[d=flex [] '']]"),
		doc(strings.Repeat("[d=flex ", 7) + strings.Repeat("]", 7)),
		doc(strings.Repeat("[", 17) + strings.Repeat("]", 17)),
		doc("[" + strings.Repeat("[]", 300) + "]"),
		doc("['" + strings.Repeat("a", 201) + "']"),
		doc("[" + strings.Repeat("'"+strings.Repeat("a", 100)+"'", 15) + "'a']"),
	}
}

var far = []int{math.MinInt, math.MinInt + 1, -maxCoord - 1, -maxCoord, -maxWidth, -2, -1, maxCoord + 1, maxCoord + 2, math.MaxInt - 1, math.MaxInt}

// P18.1 to P18.3, P0.2: the first error alone, and nothing else beside it.
func TestErrors(t *testing.T) {
	frags := func(d api.Doc, wide int, want api.Errno) {
		t.Helper()
		l, e := layout.Layout(d, wide)
		if e != want || e != api.OK && l != nil {
			t.Errorf("%s in %d: %s (%d), not %d", written(d), wide, told(l), e, want)
		}
	}
	contents := func(d api.Doc, key int, want api.Errno) {
		t.Helper()
		narrow, wide, e := layout.Wide(d, key)
		if e != want || e != api.OK && (narrow != 0 || wide != 0) {
			t.Errorf("%s, Wide %d: %d %d (%d), not %d", written(d), key, narrow, wide, e, want)
		}
	}
	talls := func(d api.Doc, key, wide int, want api.Errno) {
		t.Helper()
		tall, e := layout.Tall(d, key, wide)
		if e != want || e != api.OK && tall != 0 {
			t.Errorf("%s, Tall %d by %d: %d (%d), not %d", written(d), key, wide, tall, e, want)
		}
	}
	for _, d := range append(mayNot(may), mayNot(tooMuch)...) {
		for _, n := range append([]int{0, 1, 2, 5, 1000, maxWidth, maxWidth + 1, maxCoord}, far...) {
			frags(d, n, api.ErrDoc)
			contents(d, n, api.ErrDoc)
			for _, key := range []int{1, 2, 0, 99, -1, math.MaxInt} {
				talls(d, key, n, api.ErrDoc)
			}
		}
	}
	for _, n := range append([]int{maxWidth + 1, maxWidth + 2, maxCoord}, far...) {
		frags(may(), n, api.ErrArg)
		frags(tooMuch(), n, api.ErrArg)
	}
	for _, n := range []int{0, 1, 1000, maxWidth - 1, maxWidth} {
		frags(may(), n, api.OK)
		frags(tooMuch(), n, api.ErrOver)
	}
	// Keys of texts, and such as no node has.
	for _, key := range append([]int{0, 2, 7, 8, 100, 1 << 30}, far...) {
		contents(may(), key, api.ErrArg)
		for _, wide := range []int{-1, 0, 1000, maxCoord, maxCoord + 1} {
			talls(may(), key, wide, api.ErrArg)
		}
	}
	for _, key := range append([]int{0, 3, 4}, far...) {
		contents(tooMuch(), key, api.ErrArg)
		talls(tooMuch(), key, 1000, api.ErrArg)
	}
	for _, key := range []int{1, 3, 4, 5, 6} {
		contents(may(), key, api.OK)
		for _, wide := range []int{0, 1, 1000, maxWidth + 1, maxCoord - 1, maxCoord} {
			talls(may(), key, wide, api.OK)
		}
		for _, wide := range far {
			talls(may(), key, wide, api.ErrArg)
		}
	}
	for _, wide := range far {
		talls(tooMuch(), 1, wide, api.ErrArg)
	}
	talls(tooMuch(), 1, 0, api.ErrOver)
	talls(tooMuch(), 2, 0, api.OK)
	contents(tooMuch(), 1, api.OK)
}
