package frag_test

import (
	"bytes"
	"math/rand"
	"slices"
	"testing"

	"windowpane/api"
	"windowpane/frag"
)

// goOverTrees hands over trees: all of up to six fragments, layouts of documents,
// others by a fixed seed, and some of as many fragments as there may be.
func goOverTrees(t *testing.T, bySeed int, do func(l []api.Frag)) {
	t.Helper()
	var next func(depths []int)
	next = func(depths []int) {
		do(deep(depths...))
		if len(depths) == 6 {
			return
		}
		for depth := 1; depth <= depths[len(depths)-1]+1; depth++ {
			next(append(slices.Clip(depths), depth))
		}
	}
	next([]int{0})
	goOverLayouts(t, bySeed, do)
	r := rand.New(rand.NewSource(5))
	for range bySeed {
		do(someTree(r, 1+r.Intn(40)))
	}
	do(deep(flat(maxFrags)...))
	do(deep(steep(maxFrags)...))
	do(deep(saw(maxFrags, 60)...))
}

// P20.5: a tree that is printed is parsed as it was; bytes that are parsed are
// those of what they are.
func TestThereAndBack(t *testing.T) {
	goOverTrees(t, 400, func(l []api.Frag) {
		b, e := frag.Print(l)
		if e != api.OK {
			t.Fatalf("Print of %s: %d", brief(l), e)
		}
		back, e := frag.Parse(b)
		if e != api.OK || !frag.Same(back, l) || !alike(back, l) {
			t.Fatalf("%s, printed and parsed: %s (%d)", brief(l), brief(back), e)
		}
	})
	parsed := 0
	for _, whole := range someForms() {
		for i := range whole {
			for b := range 256 {
				one := slices.Clone(whole)
				one[i] = byte(b)
				l, e := frag.Parse(one)
				if e != api.OK {
					continue
				}
				parsed++
				if again, e := frag.Print(l); e != api.OK || !bytes.Equal(again, one) {
					t.Fatalf("%v, parsed and printed: %v (%d)", one, again, e)
				}
			}
		}
	}
	if parsed < 10000 {
		t.Errorf("only %d parsed", parsed)
	}
}

// P20.5: the longest form there may be, there and back.
func TestLongestThereAndBack(t *testing.T) {
	l := longTree(t, 1500, maxUpdate)
	b, e := frag.Print(l)
	if e != api.OK || len(b) != maxUpdate {
		t.Fatalf("Print: %d bytes (%d)", len(b), e)
	}
	back, e := frag.Parse(b)
	if e != api.OK || !frag.Same(l, back) {
		t.Fatalf("Parse: %d fragments (%d)", len(back), e)
	}
}

// P20.6: each fragment but the first one has a parent, ahead of it, below which
// it is; each first so many fragments of a tree are one, in which that is so, too.
func TestPartsOfTrees(t *testing.T) {
	goOverTrees(t, 150, func(l []api.Frag) {
		if got := frag.Parent(l, 0); got != -1 {
			t.Fatalf("Parent of 0 in %s: %d", brief(l), got)
		}
		for _, i := range someOf(l)[1:] {
			at := frag.Parent(l, i)
			if at < 0 || at >= i || l[at].Depth != l[i].Depth-1 || frag.End(l, at) <= i {
				t.Fatalf("Parent of %d in %s: %d, up to %d", i, brief(l), at, frag.End(l, at))
			}
			first := l[:i+1]
			if e := frag.Check(first); e != api.OK {
				t.Fatalf("Check of %s: %d", brief(first), e)
			}
			if got := frag.Parent(first, i); got != at {
				t.Fatalf("Parent of %d in %s: %d, not %d", i, brief(first), got, at)
			}
			if got := frag.End(first, at); got != len(first) {
				t.Fatalf("End of %d in %s: %d", at, brief(first), got)
			}
		}
		if e := frag.Check(l[:0]); e != api.ErrTree {
			t.Fatalf("Check of none: %d", e)
		}
	})
}

// P20.7: what is below a fragment, with it, each one's Depth less its own, is a
// tree; of two of these one has all of the other one's, or they share nothing.
func TestOneBelowTheOther(t *testing.T) {
	within, apart := 0, 0
	goOverTrees(t, 150, func(l []api.Frag) {
		var ends [][2]int
		for _, i := range someOf(l) {
			end := frag.End(l, i)
			ends = append(ends, [2]int{i, end})
			part := slices.Clone(l[i:end])
			for j := range part {
				part[j].Depth -= l[i].Depth
			}
			if e := frag.Check(part); e != api.OK {
				t.Fatalf("Check of what is below %d in %s: %d", i, brief(l), e)
			}
			if end < len(l) && l[end].Depth > l[i].Depth {
				t.Fatalf("End of %d in %s: %d", i, brief(l), end)
			}
		}
		for _, a := range ends {
			for _, b := range ends {
				switch {
				case b[0] >= a[1]:
					apart++
				case b[0] > a[0] && b[1] <= a[1]:
					within++
				case b[0] > a[0]:
					t.Fatalf("%v and %v in %s", a, b, brief(l))
				}
			}
		}
	})
	if within < 5000 || apart < 5000 {
		t.Errorf("only %d within others, %d apart", within, apart)
	}
}

// P0.4: what is told is new memory, its spare room too; what was handed in may be
// changed behind it.
func TestNewMemory(t *testing.T) {
	l := []api.Frag{{Node: 1, Text: "one"}, {Node: 2, Depth: 1, Text: "two"}}
	kept := slices.Clone(l)
	a, _ := frag.Print(l)
	b, _ := frag.Print(l)
	want := handForm(l)
	for i := range a[:cap(a)] {
		a[:cap(a)][i] = 77
	}
	if !bytes.Equal(b, want) || !alike(l, kept) {
		t.Error("Print shares its answer")
	}
	if c, _ := frag.Print(l); !bytes.Equal(c, want) {
		t.Error("Print keeps its answer")
	}
	in := slices.Clone(b)
	one, _ := frag.Parse(in)
	two, _ := frag.Parse(in)
	for i := range one[:cap(one)] {
		one[:cap(one)][i] = api.Frag{Node: 77, Text: "other"}
	}
	if !bytes.Equal(in, b) || !alike(two, kept) {
		t.Error("Parse shares its answer")
	}
	for i := range in {
		in[i] = 77
	}
	if !alike(two, kept) {
		t.Error("Parse keeps the bytes")
	}
	if three, e := frag.Parse(b); e != api.OK || !alike(three, kept) {
		t.Error("Parse keeps its answer")
	}
}

// P0.1, P0.3: what is refused changes nothing that a later call tells.
func TestRefusedChangesNothing(t *testing.T) {
	l, bad := deep(0, 1, 2, 1), deep(0, 1, 2, 4)
	want := handForm(l)
	for range 3 {
		if frag.Check(bad) != api.ErrTree || frag.Parent(bad, 3) != -1 || frag.End(bad, 0) != 0 || frag.Check(make([]api.Frag, maxFrags+1)) != api.ErrFull {
			t.Error("it isn't refused")
		}
		if _, e := frag.Print(bad); e != api.ErrTree {
			t.Errorf("Print: %d", e)
		}
		if _, e := frag.Parse(append(slices.Clone(want), 0)); e != api.ErrTree {
			t.Errorf("Parse: %d", e)
		}
		if frag.Check(l) != api.OK || frag.Parent(l, 3) != 0 || frag.End(l, 0) != 4 {
			t.Error("it is refused")
		}
		if b, e := frag.Print(l); e != api.OK || !bytes.Equal(b, want) {
			t.Errorf("Print: %v (%d)", b, e)
		}
		if back, e := frag.Parse(want); e != api.OK || !alike(back, l) {
			t.Errorf("Parse: %v (%d)", back, e)
		}
	}
}
