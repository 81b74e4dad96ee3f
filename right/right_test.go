package right_test

import (
	"math"
	"slices"
	"strings"
	"testing"

	"windowpane/api"
	"windowpane/layout"
	"windowpane/right"
)

// laid tells the layout of a document that can be laid out.
func laid(t *testing.T, d api.Doc, wide int) []api.Frag {
	t.Helper()
	l, e := layout.Layout(d, wide)
	if e != api.OK {
		t.Fatalf("%s in %d: %d", written(d), wide, e)
	}
	return l
}

// P19.1 to P19.4: the rows of the chapter's examples.
func TestExamples(t *testing.T) {
	d := doc("['ab ab']")
	l := laid(t, d, 1000)
	if !right.IsLayout(d, 1000, l) || right.IsLayout(d, 1000, l[:2]) {
		t.Error("IsLayout")
	}
	if at, e := right.Wrong(d, 1000, l[:2]); at != 2 || e != api.OK {
		t.Errorf("Wrong without its last fragment: %d (%d)", at, e)
	}
	moved := slices.Clone(l)
	moved[1].X = 1
	if at, e := right.Wrong(d, 1000, moved); at != 1 || e != api.OK {
		t.Errorf("Wrong with the second one's X 1: %d (%d)", at, e)
	}
	for _, x := range [][3]int{{0, 0, 1}, {0, 1280, 2}, {1023, 5, 1}, {1024, 5, -1}, {-1, 0, -1}} {
		if got := right.Hit(l, x[0], x[1]); got != x[2] {
			t.Errorf("Hit of %d, %d: %d, not %d", x[0], x[1], got, x[2])
		}
	}
	if got := checkFill(t, l); got != [4]int{0, 0, 1024, 2560} {
		t.Errorf("Fill of it: %v", got)
	}
	if got := checkFill(t, nil); got != [4]int{} {
		t.Errorf("Fill of nothing: %v", got)
	}
}

// someDocs are documents of texts, of boxes below one another, in lines, and
// flexible ones.
var someDocs = []string{
	"[]", "[font=1 'a i a']", "[font=1 ws=keep 'a~~i']", "[mt=3 ml=4 h=5]",
	"[[h=5 mt=1 mb=2] [h=6 mt=3] [[h=0] [h=7 mb=9]]]", "[p=1,2,3,4 [h=5 x=9 y=-9] [w=5 h=5]]",
	"[font=1 'a' [d=inline w=5 h=50 v=top] 'i' [d=inline 'a a'] 'a']",
	"[font=1 d=flex gap=2 align=stretch [w=9 grow=1] [h=8 'i'] [w=5 h=6]]",
	"[d=flex dir=colback h=90 just=evenly [h=5] [h=7 w=9] [h=9 grow=1]]",
	"[font=1 d=flex wrap linegap=3 [w=30 h=1] [w=30 h=2] [['i' [h=2]] w=30]]",
}

// goOverDocs hands over documents that can be laid out, with their layouts: some
// of all kinds, in some widths, and others by a fixed seed.
func goOverDocs(t *testing.T, bySeed int, do func(d api.Doc, wide int, l []api.Frag)) {
	for _, s := range someDocs {
		for _, wide := range []int{0, 1, 40, 100, 1000, maxWidth} {
			do(doc(s), wide, laid(t, doc(s), wide))
		}
	}
	goOverSeeds(3, bySeed, 12, false, func(_ seeds, d api.Doc, wide int) {
		if l, e := layout.Layout(d, wide); e == api.OK {
			do(d, wide, l)
		}
	})
}

// others tells a fragment with each field, one by one, another one.
func others(f api.Frag) []api.Frag {
	var all []api.Frag
	for _, field := range []func(f *api.Frag) *int{
		func(f *api.Frag) *int { return &f.Node }, func(f *api.Frag) *int { return &f.Part },
		func(f *api.Frag) *int { return &f.Depth }, func(f *api.Frag) *int { return &f.X },
		func(f *api.Frag) *int { return &f.Y }, func(f *api.Frag) *int { return &f.W },
		func(f *api.Frag) *int { return &f.H },
	} {
		for _, n := range []int{*field(&f) + 1, *field(&f) - 1, ^*field(&f), *field(&f) + 1<<32, *field(&f) + math.MinInt, math.MaxInt} {
			other := f
			*field(&other) = n
			all = append(all, other)
		}
	}
	for _, text := range []string{f.Text + "a", f.Text + "\x00", " " + f.Text, strings.ToUpper(f.Text) + "\xff"} {
		other := f
		other.Text = text
		all = append(all, other)
	}
	if f.Text != "" {
		less, none := f, f
		less.Text, none.Text = f.Text[1:], ""
		all = append(all, less, none)
	}
	return append(all, api.Frag{})
}

// P19.1, P19.2, P19.5: a layout is right, in each width, also of the same texts
// in other memory.
func TestRight(t *testing.T) {
	many := 0
	goOverDocs(t, 1500, func(d api.Doc, wide int, l []api.Frag) {
		copied := slices.Clone(l)
		for i := range copied {
			copied[i].Text = strings.Clone(copied[i].Text)
		}
		if at, e := checkWrong(t, d, wide, copied); at != -1 || e != api.OK {
			t.Fatalf("%s in %d: wrong at %d (%d)", written(d), wide, at, e)
		}
		many++
	})
	if many < 1500 {
		t.Errorf("only %d layouts", many)
	}
}

// P19.1, P19.2, P19.5: with each field of each fragment another one it is wrong,
// first there; also where more behind it is wrong, or isn't there.
func TestOtherFields(t *testing.T) {
	many := 0
	goOverDocs(t, 50, func(d api.Doc, wide int, l []api.Frag) {
		for i, f := range l {
			for _, other := range others(f) {
				wrong := slices.Clone(l)
				wrong[i] = other
				more := slices.Clone(wrong)
				for j := i + 1; j < len(more); j++ {
					more[j].W--
				}
				for _, one := range [][]api.Frag{wrong, more, wrong[:i+1], append(slices.Clip(wrong), f, other)} {
					if at, e := checkWrong(t, d, wide, one); at != i || e != api.OK {
						t.Fatalf("%s in %d, %s: wrong at %d (%d), not %d", written(d), wide, told(one), at, e, i)
					}
					many++
				}
			}
		}
	})
	if many < 40000 {
		t.Errorf("only %d rows", many)
	}
}

// P19.1, P19.2, P19.5: without a fragment, whichever, it is wrong first there;
// so are its beginnings, behind them.
func TestLess(t *testing.T) {
	many := 0
	goOverDocs(t, 500, func(d api.Doc, wide int, l []api.Frag) {
		for i := range l {
			without := slices.Delete(slices.Clone(l), i, i+1)
			for _, less := range [][]api.Frag{without, l[:i]} {
				if at, e := checkWrong(t, d, wide, less); at != i || e != api.OK {
					t.Fatalf("%s in %d, %s: wrong at %d (%d), not %d", written(d), wide, told(less), at, e, i)
				}
				many++
			}
			if i > 0 {
				if at, _ := checkWrong(t, d, wide, l[i:]); at != 0 {
					t.Fatalf("%s in %d, %s: wrong at %d", written(d), wide, told(l[i:]), at)
				}
			}
		}
		for _, none := range [][]api.Frag{nil, {}, l[:0]} {
			if at, _ := checkWrong(t, d, wide, none); at != 0 {
				t.Fatalf("%s in %d, of nothing: wrong at %d", written(d), wide, at)
			}
		}
	})
	if many < 5000 {
		t.Errorf("only %d rows", many)
	}
}

// P19.1, P19.2, P19.5: with a fragment more, ahead, between and behind, it is
// wrong first there; with one of its own twice, behind the first of these.
func TestMore(t *testing.T) {
	many := 0
	goOverDocs(t, 200, func(d api.Doc, wide int, l []api.Frag) {
		for i := range len(l) + 1 {
			for _, f := range append([]api.Frag{{}, {Node: 1, Text: "a"}, {Node: math.MinInt}, {Node: 99, Part: 1, Depth: 1}}, l...) {
				more := slices.Insert(slices.Clone(l), i, f)
				want := i
				if i < len(l) && l[i] == f {
					want = i + 1
				}
				if at, e := checkWrong(t, d, wide, more); at != want || e != api.OK {
					t.Fatalf("%s in %d, %s: wrong at %d (%d), not %d", written(d), wide, told(more), at, e, want)
				}
				many++
			}
		}
		if at, _ := checkWrong(t, d, wide, append(slices.Clone(l), l...)); at != len(l) {
			t.Fatalf("%s in %d, twice: wrong at %d", written(d), wide, at)
		}
	})
	if many < 15000 {
		t.Errorf("only %d rows", many)
	}
}

// P19.1, P19.2, P19.5: with two fragments exchanged it is wrong first at the
// first one of them; so is the layout of another width, or document, where they
// differ.
func TestExchanged(t *testing.T) {
	many := 0
	var last []api.Frag
	goOverDocs(t, 300, func(d api.Doc, wide int, l []api.Frag) {
		for j := range l {
			for i := range j {
				wrong := slices.Clone(l)
				wrong[i], wrong[j] = l[j], l[i]
				if at, e := checkWrong(t, d, wide, wrong); at != i || e != api.OK {
					t.Fatalf("%s in %d, %s: wrong at %d (%d), not %d", written(d), wide, told(wrong), at, e, i)
				}
				many++
			}
		}
		checkWrong(t, d, wide, last)
		checkWrong(t, d, wide+1, l)
		last = l
	})
	if many < 5000 {
		t.Errorf("only %d rows", many)
	}
}

// P19.1, P19.2: fragments that are no layout of any document, by a fixed seed.
func TestStrange(t *testing.T) {
	goOverSeeds(4, 3000, 6, true, func(r seeds, d api.Doc, wide int) {
		l := wild(r.Rand, r.Intn(6))
		checkWrong(t, d, wide, l)
		if told, e := layout.Layout(d, wide); e == api.OK {
			checkWrong(t, d, wide, append(slices.Clone(told), l...))
			checkWrong(t, d, wide, append(slices.Clone(told[:r.Intn(len(told)+1)]), l...))
		}
	})
	long := make([]api.Frag, 10*api.MaxFrags)
	d := doc("[]")
	checkWrong(t, d, 100, long)
	if at, _ := checkWrong(t, d, 100, append(laid(t, d, 100), long...)); at != 1 {
		t.Errorf("wrong at %d", at)
	}
	text := doc("['" + strings.Repeat("i ", 100) + "'" + strings.Repeat("[]", 200) + "]")
	l := laid(t, text, 0)
	if at, _ := checkWrong(t, text, 0, l); at != -1 || len(l) != 301 {
		t.Errorf("wrong at %d of %d", at, len(l))
	}
	l[300].Depth++
	if at, _ := checkWrong(t, text, 0, l); at != 300 {
		t.Errorf("wrong at %d", at)
	}
}

// tooMuch is a document that may be, and can't be laid out in any width.
func tooMuch() api.Doc { return doc("[h=F p=F,0,F,0 b=F,0,F,0 [h=F p=F,0,F,0 b=F,0,F,0 'a']]") }

// mayNot tells documents that may not be.
func mayNot() []api.Doc {
	made := func(do func(d *api.Doc)) api.Doc {
		one := doc("[font=1 'a' [d=inline] [d=flex [h=1]] [h=2]]")
		do(&one)
		return one
	}
	return []api.Doc{
		{}, {Next: 5}, {Nodes: []api.Node{}, Next: 1},
		made(func(d *api.Doc) { d.Next = 0 }),
		made(func(d *api.Doc) { d.Next = math.MaxInt }),
		made(func(d *api.Doc) { d.Nodes[0].Depth = 1 }),
		made(func(d *api.Doc) { d.Nodes[1].Depth = math.MinInt }),
		made(func(d *api.Doc) { d.Nodes[1].Key = 1 }),
		made(func(d *api.Doc) { d.Nodes[0].Kind = 2 }),
		made(func(d *api.Doc) { d.Nodes[0].Style.Padding[api.Left] = -1 }),
		made(func(d *api.Doc) { d.Nodes[0].Style.Width = api.Length{Kind: api.LFixed, N: maxLength + 1} }),
		doc("[d=flex 'a']"), doc("[" + strings.Repeat("[]", 300) + "]"),
	}
}

var far = []int{math.MinInt, math.MinInt + 1, -maxCoord - 1, -maxCoord, -maxWidth, -2, -1, maxWidth + 1, maxCoord, maxCoord + 1, math.MaxInt - 1, math.MaxInt}

// P19.1, P19.2, P0.2: Layout's errors, the first one alone, with fragments and
// with none; such fragments are never right.
func TestErrors(t *testing.T) {
	many := 0
	refused := func(d api.Doc, wide int, want api.Errno) {
		t.Helper()
		for _, l := range [][]api.Frag{nil, {}, {{}}, {{Node: 1}}, {{Node: 1, W: wide}}, laid(t, doc("[font=1 'a']"), 100)} {
			if at, e := checkWrong(t, d, wide, l); at != 0 || e != want || right.IsLayout(d, wide, l) {
				t.Errorf("%s in %d, %s: %d (%d), not %d", written(d), wide, told(l), at, e, want)
			}
			many++
		}
	}
	widths := []int{0, 1, 100, 1000, maxWidth - 1, maxWidth}
	for _, d := range mayNot() {
		for _, wide := range append(widths, far...) {
			refused(d, wide, api.ErrDoc)
		}
	}
	for _, wide := range far {
		refused(doc("[]"), wide, api.ErrArg)
		refused(tooMuch(), wide, api.ErrArg)
	}
	for _, wide := range widths {
		refused(tooMuch(), wide, api.ErrOver)
		// The last fragment alone stands too far away; or just not.
		refused(doc("[x=F [x=F [x=F [x=F [x=1]]]]]"), wide, api.ErrOver)
		just := doc("[x=F [x=F [x=F [x=F [x=0]]]]]")
		if at, e := checkWrong(t, just, wide, laid(t, just, wide)); at != -1 || e != api.OK {
			t.Errorf("just not too far away: %d (%d)", at, e)
		}
	}
	goOverSeeds(6, 2000, 10, true, func(_ seeds, d api.Doc, wide int) {
		if _, e := layout.Layout(d, wide); e != api.OK {
			refused(d, wide, e)
		}
	})
	if many < 2000 {
		t.Errorf("only %d rows", many)
	}
}
