package frag_test

import (
	"math"
	"math/rand"
	"slices"
	"strings"
	"testing"

	"windowpane/api"
	"windowpane/frag"
)

// P20.1, P20.2: the rows of the chapter's examples.
func TestExamples(t *testing.T) {
	for _, x := range []struct {
		depths []int
		want   api.Errno
	}{
		{nil, api.ErrTree}, {[]int{0}, api.OK}, {[]int{0, 1, 2, 1}, api.OK}, {[]int{0, 2}, api.ErrTree}, {[]int{0, 1, 0}, api.ErrTree},
	} {
		if got := checkCheck(t, deep(x.depths...)); got != x.want {
			t.Errorf("Check of %v: %d, not %d", x.depths, got, x.want)
		}
	}
	l := deep(0, 1, 2, 1)
	for _, x := range [][2]int{{3, 0}, {2, 1}, {0, -1}, {4, -1}} {
		if got := frag.Parent(l, x[0]); got != x[1] {
			t.Errorf("Parent of %d: %d, not %d", x[0], got, x[1])
		}
	}
	for i, want := range []int{4, 3, 3} {
		if got := frag.End(l, i); got != want {
			t.Errorf("End of %d: %d, not %d", i, got, want)
		}
	}
}

// P20.1, May: each number just at its least and most, one beyond, and whatever
// an int holds; texts of just as many bytes as there may be, and of one more.
func TestMay(t *testing.T) {
	full := api.Frag{Node: 1, Part: 2, Depth: 3, X: 4, Y: -5, W: 6, H: -7, Text: "text"}
	bounds := [][2]int{{0, maxCoord}, {0, maxCoord}, {0, maxFrags}, {-maxCoord, maxCoord}, {-maxCoord, maxCoord}, {-maxCoord, maxCoord}, {-maxCoord, maxCoord}}
	for _, one := range []api.Frag{{}, full} {
		if !frag.May(one) {
			t.Errorf("May of %+v: no", one)
		}
		for i, bound := range bounds {
			for _, n := range append([]int{bound[0] - 1, bound[0], bound[1], bound[1] + 1}, wild...) {
				f := one
				*numbersOf(&f)[i] = n
				if got := frag.May(f); got != (bound[0] <= n && n <= bound[1]) {
					t.Errorf("May of %+v: %v", f, got)
				}
			}
		}
		for _, many := range []int{0, 1, 2, 255, 256, 257, 258, 512, 1 << 16, maxUpdate} {
			for _, s := range []string{"a", "\x00", "\xff"} {
				f := one
				f.Text = strings.Repeat(s, many)
				if got := frag.May(f); got != (many <= 256) {
					t.Errorf("May of %d bytes %q: %v", many, s, got)
				}
			}
		}
	}
	// Bytes count, not characters.
	if !frag.May(api.Frag{Text: strings.Repeat("é", 128)}) || frag.May(api.Frag{Text: strings.Repeat("é", 129)}) {
		t.Error("May of texts of é")
	}
}

// P20.1, May, Check: each two numbers at the edges, or beyond.
func TestTwoNumbers(t *testing.T) {
	for i := range 7 {
		for j := range i {
			for _, n := range wild {
				for _, m := range wild {
					l := deep(0, 1)
					*numbersOf(&l[1])[i], *numbersOf(&l[1])[j] = n, m
					checkCheck(t, l)
				}
			}
		}
	}
}

// P20.1, Check; P20.2 to P20.4: all rows of up to five fragments of some Depths,
// and of up to four of some Depths and keys.
func TestShortRows(t *testing.T) {
	trees := 0
	do := func(l []api.Frag) {
		if checkAll(t, l) {
			trees++
		}
	}
	var kinds []api.Frag
	for _, depth := range []int{-1, 0, 1, 2, 3, 4} {
		kinds = append(kinds, api.Frag{Depth: depth, W: 5, Text: "a"})
	}
	goOverShort(5, false, kinds, do)
	// Of one fragment on: 1, 1, 2, 5 and 14 trees.
	if trees != 23 {
		t.Errorf("%d trees", trees)
	}
	trees, kinds = 0, nil
	for _, depth := range []int{0, 1, 2} {
		for _, key := range [][2]int{{0, 0}, {0, 1}, {1, 0}} {
			kinds = append(kinds, api.Frag{Node: key[0], Part: key[1], Depth: depth})
		}
	}
	goOverShort(4, true, kinds, do)
	// 3 of one key, 6 of two, 6 of three, of which the last one has one of two
	// Depths.
	if trees != 3+6+2*6 {
		t.Errorf("%d trees", trees)
	}
}

// P20.1, P20.2: whatever the first fragment's Depth is; a later one of Depth 0 or
// below; a Depth that leaps by two or more, at each place of a tree.
func TestDepths(t *testing.T) {
	for _, depths := range [][]int{{0}, {0, 1}, {0, 1, 2, 3, 2, 1, 2, 3, 4, 1}, flat(9), steep(9), saw(20, 4)} {
		l := deep(depths...)
		if !checkAll(t, l) {
			t.Errorf("%v: no tree", depths)
		}
		for i := range l {
			for _, depth := range append([]int{depths[max(i-1, 0)] + 1, depths[max(i-1, 0)] + 2}, wild...) {
				checkAll(t, with(l, i, func(f *api.Frag) { f.Depth = depth }))
			}
			if l[i:][0].Depth > 0 && checkAll(t, l[i:]) {
				t.Errorf("%v: a tree", depths[i:])
			}
		}
	}
}

// P20.1, Check: a key that comes twice, side by side, far apart, above itself; a
// Node alone that does, or a Part alone, or both of them exchanged.
func TestKeys(t *testing.T) {
	key := func(node, part int) func(f *api.Frag) {
		return func(f *api.Frag) { f.Node, f.Part = node, part }
	}
	l := deep(saw(25, 5)...)
	for i := range l {
		for j := range i {
			twice := with(l, i, key(l[j].Node, l[j].Part))
			if checkAll(t, twice) {
				t.Errorf("%d and %d of one key: a tree", i, j)
			}
			if !checkAll(t, with(twice, i, func(f *api.Frag) { f.Part = 1 })) {
				t.Errorf("%d and %d of one Node: no tree", i, j)
			}
		}
	}
	for _, keys := range [][2][2]int{{{1, 2}, {2, 1}}, {{0, 1}, {1, 0}}, {{0, 3}, {2, 3}}, {{7, 7}, {7, 8}}, {{1, maxCoord}, {maxCoord, 1}}, {{1, 11}, {11, 1}}, {{0, 0}, {0, 1 << 32}}, {{1 << 32, 0}, {0, 0}}} {
		if !checkAll(t, with(with(deep(0, 1), 0, key(keys[0][0], keys[0][1])), 1, key(keys[1][0], keys[1][1]))) {
			t.Errorf("keys %v: no tree", keys)
		}
	}
	// Parts of one node; the same again behind them.
	parts := deep(flat(30)...)
	for i := range parts {
		parts[i].Node, parts[i].Part = 4, i
	}
	if !checkAll(t, parts) || checkAll(t, append(parts, parts[1])) || checkAll(t, append(parts, parts[29])) {
		t.Error("parts of one node")
	}
}

// P20.1, P20.2, P20.4: a fragment that may not be, at each place of a tree.
func TestFragmentsThatMayNotBe(t *testing.T) {
	l := deep(0, 1, 2, 2, 1)
	for i := range l {
		for field := range 7 {
			for _, n := range wild {
				checkAll(t, with(l, i, func(f *api.Frag) { *numbersOf(f)[field] = n }))
			}
		}
		for _, many := range []int{0, 1, 255, 256, 257, 300, maxUpdate} {
			got := checkAll(t, with(l, i, func(f *api.Frag) { f.Text = strings.Repeat("\x80", many) }))
			if got != (many <= 256) {
				t.Errorf("a text of %d bytes: %v", many, got)
			}
		}
	}
}

// P20.1, P20.2, P20.4: just as many fragments as there may be, below one another,
// side by side, rising and coming back up; and one more: of trees and of none.
func TestManyFragments(t *testing.T) {
	for _, shape := range []func(many int) []int{flat, steep, func(many int) []int { return saw(many, 7) }} {
		for _, many := range []int{maxFrags - 1, maxFrags} {
			l := deep(shape(many)...)
			if e := checkCheck(t, l); e != api.OK {
				t.Errorf("Check of %d: %d", many, e)
			}
			for _, i := range append([]int{0, 1, 2, many / 2, many - 2, many - 1}, notThere(many)...) {
				checkPlace(t, l, i, true)
			}
			checkPrint(t, l)
			checkParse(t, handForm(l))
			twice := with(l, many-1, func(f *api.Frag) { f.Node = 1 })
			if e := checkCheck(t, twice); e != api.ErrTree {
				t.Errorf("Check of %d, of which the last one has the first one's key: %d", many, e)
			}
			checkPrint(t, twice)
			checkParse(t, handForm(twice))
		}
		for _, many := range []int{maxFrags + 1, maxFrags + 2, 3 * maxFrags} {
			tooMany := deep(shape(many)...)
			for _, l := range [][]api.Frag{
				tooMany, make([]api.Frag, many), tooMany[1:], with(tooMany, many-1, func(f *api.Frag) { f.X = math.MinInt }),
				with(tooMany, 1, func(f *api.Frag) { f.Text = strings.Repeat("a", 257) }), with(tooMany, 0, func(f *api.Frag) { f.Depth = 5 }),
			} {
				if len(l) <= maxFrags {
					continue
				}
				if e := checkCheck(t, l); e != api.ErrFull {
					t.Errorf("Check of %d: %d", len(l), e)
				}
				if _, e := checkPrint(t, l); e != api.ErrFull {
					t.Errorf("Print of %d: %d", len(l), e)
				}
				for _, i := range []int{-1, 0, 1, 2048, many - 1, many} {
					checkPlace(t, l, i, false)
				}
				if _, e := checkParse(t, handForm(l)); e != api.ErrTree {
					t.Errorf("Parse of %d: %d", len(l), e)
				}
			}
		}
	}
}

// P20.1 to P20.4: trees by a fixed seed, as they are, and with something
// otherwise.
func TestSomeTrees(t *testing.T) {
	r := rand.New(rand.NewSource(2))
	trees, none := 0, 0
	note := func(is bool) {
		if is {
			trees++
		} else {
			none++
		}
	}
	for range 120 {
		l := someTree(r, 1+r.Intn(20))
		if !checkAll(t, l) {
			t.Fatalf("%s: no tree", brief(l))
		}
		for range 8 {
			i, field := r.Intn(len(l)), r.Intn(7)
			note(checkAll(t, with(l, i, func(f *api.Frag) { *numbersOf(f)[field] = oneOf(r, wild...) })))
			note(checkAll(t, with(l, i, func(f *api.Frag) { *numbersOf(f)[field] += r.Intn(5) - 2 })))
			note(checkAll(t, slices.Delete(slices.Clone(l), i, i+1)))
			note(checkAll(t, slices.Insert(slices.Clone(l), i, l[r.Intn(len(l))])))
			other := slices.Clone(l)
			j := r.Intn(len(l))
			other[i], other[j] = other[j], other[i]
			note(checkAll(t, other))
		}
	}
	if trees < 1000 || none < 1000 {
		t.Errorf("only %d trees, %d that are none", trees, none)
	}
}

// P20.1 to P20.4: layouts of documents are trees.
func TestLayouts(t *testing.T) {
	goOverLayouts(t, 300, func(l []api.Frag) {
		if !checkAll(t, l) {
			t.Fatalf("%s: no tree", brief(l))
		}
	})
}

// P20.2: numbers of fragments that aren't there, in trees and in rows that are
// none; numbers that are there, in rows that are none.
func TestNotThere(t *testing.T) {
	for _, l := range [][]api.Frag{nil, {}, deep(0), deep(0, 1, 2, 1), deep(1), deep(0, 2), deep(0, 1, 0), deep(0, 0), make([]api.Frag, 5), deep(steep(maxFrags + 1)...)} {
		for _, i := range notThere(len(l)) {
			if p, e := frag.Parent(l, i), frag.End(l, i); p != -1 || e != 0 {
				t.Errorf("%d in %s: %d, %d", i, brief(l), p, e)
			}
		}
	}
	for _, l := range [][]api.Frag{
		deep(1), deep(1, 2), deep(0, 2, 1), deep(0, 1, 0, 1), deep(0, 1, 2, 1, 0), append(deep(0, 1, 2), deep(0, 1)[1]),
		with(deep(0, 1, 2, 1), 3, func(f *api.Frag) { f.Text = strings.Repeat("a", 257) }), with(deep(0, 1, 2, 1), 0, func(f *api.Frag) { f.H = maxCoord + 1 }),
	} {
		for i := range l {
			if p, e := frag.Parent(l, i), frag.End(l, i); p != -1 || e != 0 {
				t.Errorf("%d in %s: %d, %d", i, brief(l), p, e)
			}
		}
	}
}

// P20.3, Find: keys that are there, of the first, a middle one and the last
// fragment, and such as aren't; of rows in which a key comes more often the first
// one; of any rows.
func TestFind(t *testing.T) {
	l := []api.Frag{{Node: 5}, {Node: 5, Part: 1, Depth: 1}, {Node: 7, Part: 1, Depth: 1}, {Node: 1, Part: 5, Depth: 2}, {Node: 9, Part: 9, Depth: 1}}
	for i, f := range l {
		if got := checkFind(t, l, f.Node, f.Part); got != i {
			t.Errorf("Find of %d %d: %d", f.Node, f.Part, got)
		}
	}
	for _, key := range [][2]int{{0, 0}, {5, 2}, {7, 0}, {1, 0}, {0, 5}, {1, 7}, {9, 8}, {8, 9}, {-5, 0}, {5, -1}, {5 + 1<<32, 0}, {5, 1 << 32}, {math.MinInt, math.MinInt}, {math.MaxInt, math.MaxInt}} {
		if got := checkFind(t, l, key[0], key[1]); got != -1 {
			t.Errorf("Find of %v: %d", key, got)
		}
	}
	for _, none := range [][]api.Frag{nil, {}} {
		if got := checkFind(t, none, 0, 0); got != -1 {
			t.Errorf("Find in none: %d", got)
		}
	}
	twice := slices.Concat(l, l, make([]api.Frag, maxFrags), []api.Frag{{Node: math.MinInt, Part: math.MaxInt, X: math.MaxInt}})
	for i, f := range l {
		if got := checkFind(t, twice, f.Node, f.Part); got != i {
			t.Errorf("Find of %d %d: %d", f.Node, f.Part, got)
		}
	}
	if a, b := checkFind(t, twice, 0, 0), checkFind(t, twice, math.MinInt, math.MaxInt); a != 10 || b != 10+maxFrags {
		t.Errorf("Find: %d, %d", a, b)
	}
	for _, node := range wild {
		for _, part := range wild {
			checkFind(t, []api.Frag{{Node: part, Part: node}, {Node: node, Part: part}, {Node: node, Part: part}}, node, part)
			checkFind(t, []api.Frag{{Node: node}, {Part: part}, {X: node, Y: part}}, node, part)
		}
	}
}

// P20.3, Same: rows that are the same, in memory of their own; that differ in one
// field of one fragment; of which one begins the other one; of any rows.
func TestSame(t *testing.T) {
	rows := [][]api.Frag{deep(0, 1, 2, 1), make([]api.Frag, 3), deep(flat(maxFrags + 1)...)[maxFrags-2:], {{Node: math.MinInt, Part: -1, Depth: math.MaxInt, X: 1, Y: 2, W: 3, H: 4, Text: strings.Repeat("é", 200)}}}
	for _, l := range rows {
		copied := slices.Clone(l)
		for i := range copied {
			copied[i].Text = strings.Clone(copied[i].Text)
		}
		checkSame(t, l, copied, true)
		for i := range l {
			for field := range 7 {
				for _, n := range wild {
					other := with(l, i, func(f *api.Frag) { *numbersOf(f)[field] = n })
					checkSame(t, l, other, n == *numbersOf(&l[i])[field])
				}
			}
			for _, s := range []string{"b", "\x00", "\xff", strings.Repeat("é", 199) + "e\u0301", l[i].Text + " ", " " + l[i].Text} {
				checkSame(t, l, with(l, i, func(f *api.Frag) { f.Text = s }), false)
			}
			checkSame(t, l, l[:i], false)
			checkSame(t, l, l[i:], i == 0)
			checkSame(t, l, append(slices.Clone(l), l[i]), false)
			checkSame(t, l, slices.Insert(slices.Clone(l), i, api.Frag{X: 99}), false)
		}
	}
	for _, none := range [][]api.Frag{nil, {}, rows[0][:0]} {
		checkSame(t, none, nil, true)
		checkSame(t, none, []api.Frag{}, true)
		checkSame(t, none, []api.Frag{{}}, false)
	}
	checkSame(t, deep(0, 1), []api.Frag{deep(0, 1)[1], deep(0, 1)[0]}, false)
}
