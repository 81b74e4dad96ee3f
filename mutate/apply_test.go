package mutate_test

import (
	"math"
	"slices"
	"strings"
	"testing"

	"windowpane/api"
	"windowpane/mutate"
	"windowpane/tree"
)

var (
	aBox    = api.Node{Kind: api.NkBox}
	aFlex   = api.Node{Kind: api.NkBox, Style: api.Style{Display: api.DFlex}}
	aText   = api.Node{Kind: api.NkText, Text: "x"}
	anError = api.Node{Kind: api.NkBox, Style: api.Style{Display: 3}}
)

func insert(parent, at int, n api.Node) api.Change {
	return api.Change{Kind: api.ChInsert, Parent: parent, At: at, Node: n}
}

func remove(key int) api.Change { return api.Change{Kind: api.ChRemove, Key: key} }

func move(key, parent, at int) api.Change {
	return api.Change{Kind: api.ChMove, Key: key, Parent: parent, At: at}
}

func setStyle(key int, s api.Style) api.Change {
	return api.Change{Kind: api.ChStyle, Key: key, Node: api.Node{Style: s}}
}

func setText(key int, text string) api.Change {
	return api.Change{Kind: api.ChText, Key: key, Node: api.Node{Text: text}}
}

// checkWords holds what comes of a change against the keys, depths and kinds
// of all its nodes, and its Next.
func checkWords(t *testing.T, d api.Doc, c api.Change, want string) {
	t.Helper()
	if got := words(mustApply(t, d, c)); got != want {
		t.Errorf("%s, %s: %s, not %s", brief(words(d)), told(c), got, want)
	}
	checkByHand(t, d, c)
}

// P7.2: the rows of the chapter's examples.
func TestExamples(t *testing.T) {
	d := doc("0b 1b 2b 1b")
	checkMay(t, d, true)
	checkWords(t, d, insert(1, 1, aBox), "1:0b 2:1b 3:2b 5:1b 4:1b next 6")
	checkWords(t, d, insert(4, 0, aText), "1:0b 2:1b 3:2b 4:1b 5:2t next 6")
	checkRefused(t, d, insert(3, 1, aText), api.ErrChange)
	checkWords(t, d, remove(2), "1:0b 4:1b next 5")
	checkRefused(t, d, remove(1), api.ErrChange)
	checkWords(t, d, move(2, 4, 0), "1:0b 4:1b 2:2b 3:3b next 5")
	checkRefused(t, d, move(2, 3, 0), api.ErrChange)
	checkWords(t, d, move(2, 1, 1), "1:0b 4:1b 2:1b 3:2b next 5")
	checkRefused(t, d, setText(4, "x"), api.ErrChange)
	checkRefused(t, d, setStyle(9, api.Style{}), api.ErrChange)
	checkRefused(t, d, setStyle(4, api.Style{Display: 3}), api.ErrStyle)
}

// P7.2: a new node as the first kid, the last one, between others; one below 0
// and one more than there are kids; the number counts kids, not what is in
// them.
func TestInsertAt(t *testing.T) {
	d := doc("0b 1b 2b 3b 2t 1t 1b 2b")
	for at, want := range []string{
		"1:0b 9:1b 2:1b 3:2b 4:3b 5:2t 6:1t 7:1b 8:2b next 10",
		"1:0b 2:1b 3:2b 4:3b 5:2t 9:1b 6:1t 7:1b 8:2b next 10",
		"1:0b 2:1b 3:2b 4:3b 5:2t 6:1t 9:1b 7:1b 8:2b next 10",
		"1:0b 2:1b 3:2b 4:3b 5:2t 6:1t 7:1b 8:2b 9:1b next 10",
	} {
		checkWords(t, d, insert(1, at, aBox), want)
	}
	for at, want := range []string{
		"1:0b 2:1b 9:2t 3:2b 4:3b 5:2t 6:1t 7:1b 8:2b next 10",
		"1:0b 2:1b 3:2b 4:3b 9:2t 5:2t 6:1t 7:1b 8:2b next 10",
		"1:0b 2:1b 3:2b 4:3b 5:2t 9:2t 6:1t 7:1b 8:2b next 10",
	} {
		checkWords(t, d, insert(2, at, aText), want)
	}
	checkWords(t, d, insert(4, 0, aFlex), "1:0b 2:1b 3:2b 4:3b 9:4f 5:2t 6:1t 7:1b 8:2b next 10")
	checkWords(t, d, insert(8, 0, aFlex), "1:0b 2:1b 3:2b 4:3b 5:2t 6:1t 7:1b 8:2b 9:3f next 10")
	for parent, kids := range map[int]int{1: 3, 2: 2, 3: 1, 4: 0, 7: 1, 8: 0} {
		for _, n := range []api.Node{aBox, aText, aFlex} {
			for at := -3; at < kids+4; at++ {
				want := api.OK
				if at < 0 || at > kids {
					want = api.ErrChange
				}
				if got := checkByHand(t, d, insert(parent, at, n)); got != want {
					t.Errorf("below %d at %d: error %d, not %d", parent, at, got, want)
				}
			}
			for _, at := range slices.Concat(far, []int{len(d.Nodes), len(d.Nodes) + 1}) {
				checkRefused(t, d, insert(parent, at, n), api.ErrChange)
			}
		}
	}
	checkWords(t, doc("0b"), insert(1, 0, aText), "1:0b 2:1t next 3")
	checkRefused(t, doc("0b"), insert(1, 1, aText), api.ErrChange)
}

// P7.2: of a new box its style counts, of a new text its text, and nothing
// else; its key is Next, whatever keys there are.
func TestInsertTakes(t *testing.T) {
	d := with(doc("0b 1b 1t"), func(d *api.Doc) { d.Next = 100 })
	s := api.Style{Display: api.DInline, Whole: true, Padding: [4]int{1, 2, 3, 4}, Order: -5}
	for _, key := range append([]int{0, 1, 2, 3, 99, 100}, far...) {
		for _, depth := range append([]int{0, 1, 2, 16}, far...) {
			box := mustApply(t, d, insert(1, 1, api.Node{Key: key, Depth: depth, Kind: api.NkBox, Style: s, Text: "not mine"}))
			if want := (api.Node{Key: 100, Depth: 1, Kind: api.NkBox, Style: s}); box.Nodes[2] != want || box.Next != 101 {
				t.Fatalf("%v, not %v", box.Nodes[2], want)
			}
			text := mustApply(t, d, insert(2, 0, api.Node{Key: key, Depth: depth, Kind: api.NkText, Style: s, Text: "mine"}))
			if want := (api.Node{Key: 100, Depth: 2, Kind: api.NkText, Text: "mine"}); text.Nodes[2] != want || text.Next != 101 {
				t.Fatalf("%v, not %v", text.Nodes[2], want)
			}
		}
	}
	checkByHand(t, d, insert(1, 0, api.Node{Kind: api.NkBox, Text: strings.Repeat("x", 1<<20)}))
	checkByHand(t, d, insert(1, 0, api.Node{Kind: api.NkText}))
}

// P7.2: kinds of new nodes that there aren't; parents that are texts, or that
// aren't there.
func TestInsertDoesNotFit(t *testing.T) {
	d := doc("0b 1b 2t 1t")
	for kind := range 256 {
		want := api.OK
		if kind > 1 {
			want = api.ErrChange
		}
		if got := checkByHand(t, d, insert(1, 0, api.Node{Kind: uint8(kind)})); got != want {
			t.Errorf("kind %d: error %d, not %d", kind, got, want)
		}
	}
	for _, n := range []api.Node{aBox, aText, aFlex, anError} {
		for _, parent := range append([]int{0, 3, 4, 5, 6, 100}, far...) {
			for at := -1; at < 3; at++ {
				checkRefused(t, d, insert(parent, at, n), api.ErrChange)
			}
		}
	}
}

// P7.2: a node goes with all that is in it, and nothing else; the root stays,
// and so does Next.
func TestRemove(t *testing.T) {
	d := doc("0b 1b 2b 3b 2t 1t 1b 2b")
	for key, want := range map[int]string{
		2: "1:0b 6:1t 7:1b 8:2b next 9",
		3: "1:0b 2:1b 5:2t 6:1t 7:1b 8:2b next 9",
		4: "1:0b 2:1b 3:2b 5:2t 6:1t 7:1b 8:2b next 9",
		5: "1:0b 2:1b 3:2b 4:3b 6:1t 7:1b 8:2b next 9",
		6: "1:0b 2:1b 3:2b 4:3b 5:2t 7:1b 8:2b next 9",
		7: "1:0b 2:1b 3:2b 4:3b 5:2t 6:1t next 9",
		8: "1:0b 2:1b 3:2b 4:3b 5:2t 6:1t 7:1b next 9",
	} {
		checkWords(t, d, remove(key), want)
	}
	for _, key := range append([]int{0, 1, 9, 10, 100}, far...) {
		checkRefused(t, d, remove(key), api.ErrChange)
	}
	checkRefused(t, doc("0f"), remove(1), api.ErrChange)
	odd := with(d, func(d *api.Doc) { d.Nodes[0].Key, d.Nodes[3].Key, d.Next = 77, 1, 1000 })
	checkRefused(t, odd, remove(77), api.ErrChange)
	checkWords(t, odd, remove(1), "77:0b 2:1b 3:2b 5:2t 6:1t 7:1b 8:2b next 1000")
}

// P7.2: moves within one parent, forth and back, and to where the node stands:
// the number is that of the kids there are then.
func TestMoveWithinParent(t *testing.T) {
	d := doc("0b 1b 2t 1b 2b 3b 1t 1f")
	for _, x := range []struct {
		key, at int
		want    string
	}{
		{2, 0, "1:0b 2:1b 3:2t 4:1b 5:2b 6:3b 7:1t 8:1f next 9"},
		{2, 1, "1:0b 4:1b 5:2b 6:3b 2:1b 3:2t 7:1t 8:1f next 9"},
		{2, 2, "1:0b 4:1b 5:2b 6:3b 7:1t 2:1b 3:2t 8:1f next 9"},
		{2, 3, "1:0b 4:1b 5:2b 6:3b 7:1t 8:1f 2:1b 3:2t next 9"},
		{4, 0, "1:0b 4:1b 5:2b 6:3b 2:1b 3:2t 7:1t 8:1f next 9"},
		{4, 1, "1:0b 2:1b 3:2t 4:1b 5:2b 6:3b 7:1t 8:1f next 9"},
		{4, 2, "1:0b 2:1b 3:2t 7:1t 4:1b 5:2b 6:3b 8:1f next 9"},
		{4, 3, "1:0b 2:1b 3:2t 7:1t 8:1f 4:1b 5:2b 6:3b next 9"},
		{8, 0, "1:0b 8:1f 2:1b 3:2t 4:1b 5:2b 6:3b 7:1t next 9"},
		{8, 3, "1:0b 2:1b 3:2t 4:1b 5:2b 6:3b 7:1t 8:1f next 9"},
		{7, 0, "1:0b 7:1t 2:1b 3:2t 4:1b 5:2b 6:3b 8:1f next 9"},
	} {
		checkWords(t, d, move(x.key, 1, x.at), x.want)
	}
	checkWords(t, d, move(3, 2, 0), words(d))
	checkWords(t, d, move(6, 5, 0), words(d))
	for _, key := range []int{2, 4, 7, 8} {
		for _, at := range append([]int{4, 5, 6}, far...) {
			checkRefused(t, d, move(key, 1, at), api.ErrChange)
		}
	}
	for _, at := range append([]int{1, 2}, far...) {
		checkRefused(t, d, move(3, 2, at), api.ErrChange)
	}
}

// P7.2: moves up, down, ahead and behind; the root, and into the tree that is
// moved; parents that are texts, or aren't there.
func TestMoveElsewhere(t *testing.T) {
	d := doc("0b 1b 2b 3t 2b 1t 1b 2b 3b")
	for _, x := range []struct {
		key, parent, at int
		want            string
	}{
		{2, 7, 0, "1:0b 6:1t 7:1b 2:2b 3:3b 4:4t 5:3b 8:2b 9:3b next 10"},
		{2, 7, 1, "1:0b 6:1t 7:1b 8:2b 9:3b 2:2b 3:3b 4:4t 5:3b next 10"},
		{2, 9, 0, "1:0b 6:1t 7:1b 8:2b 9:3b 2:4b 3:5b 4:6t 5:5b next 10"},
		{3, 1, 0, "1:0b 3:1b 4:2t 2:1b 5:2b 6:1t 7:1b 8:2b 9:3b next 10"},
		{3, 1, 1, "1:0b 2:1b 5:2b 3:1b 4:2t 6:1t 7:1b 8:2b 9:3b next 10"},
		{3, 1, 3, "1:0b 2:1b 5:2b 6:1t 7:1b 8:2b 9:3b 3:1b 4:2t next 10"},
		{3, 5, 0, "1:0b 2:1b 5:2b 3:3b 4:4t 6:1t 7:1b 8:2b 9:3b next 10"},
		{9, 2, 1, "1:0b 2:1b 3:2b 4:3t 9:2b 5:2b 6:1t 7:1b 8:2b next 10"},
		{9, 3, 1, "1:0b 2:1b 3:2b 4:3t 9:3b 5:2b 6:1t 7:1b 8:2b next 10"},
		{7, 5, 0, "1:0b 2:1b 3:2b 4:3t 5:2b 7:3b 8:4b 9:5b 6:1t next 10"},
		{6, 9, 0, "1:0b 2:1b 3:2b 4:3t 5:2b 7:1b 8:2b 9:3b 6:4t next 10"},
		{4, 1, 0, "1:0b 4:1t 2:1b 3:2b 5:2b 6:1t 7:1b 8:2b 9:3b next 10"},
	} {
		checkWords(t, d, move(x.key, x.parent, x.at), x.want)
	}
	for _, x := range [][2]int{{2, 2}, {2, 3}, {2, 5}, {2, 4}, {3, 3}, {3, 4}, {7, 7}, {7, 8}, {7, 9}, {8, 9}, {9, 9}, {4, 4}} {
		for at := -1; at < 4; at++ {
			checkRefused(t, d, move(x[0], x[1], at), api.ErrChange)
		}
	}
	for _, key := range append([]int{0, 1, 10, 100}, far...) {
		for parent := range 11 {
			checkRefused(t, d, move(key, parent, 0), api.ErrChange)
		}
	}
	for _, parent := range append([]int{0, 4, 6, 10, 100}, far...) {
		for key := range 11 {
			checkRefused(t, d, move(key, parent, 0), api.ErrChange)
		}
	}
	for _, at := range append([]int{2, 3}, far...) {
		checkRefused(t, d, move(2, 7, at), api.ErrChange)
	}
}

// P7.2: a box gets just the style, the root too; a text none, nor does a node
// that isn't there.
func TestStyle(t *testing.T) {
	d := doc("0b 1b 2f 3b 1t 1i")
	s := api.Style{Display: api.DInline, Whole: true, Width: api.Length{Kind: api.LPart, N: 5000}, OffX: -7, Order: 3}
	for _, key := range []int{1, 2, 3, 4, 6} {
		want := with(d, func(d *api.Doc) { d.Nodes[key-1].Style = s })
		checkApply(t, d, setStyle(key, s), want, api.OK)
		checkApply(t, want, setStyle(key, d.Nodes[key-1].Style), d, api.OK)
		for _, odd := range broken {
			checkRefused(t, d, setStyle(key, odd), api.ErrStyle)
		}
	}
	for _, key := range append([]int{0, 5, 7, 100}, far...) {
		checkRefused(t, d, setStyle(key, s), api.ErrChange)
		checkRefused(t, d, setStyle(key, api.Style{}), api.ErrChange)
		checkRefused(t, d, setStyle(key, broken[0]), api.ErrChange)
	}
}

// P7.2: a text gets just the text, whatever bytes it is of; a box none, nor
// does a node that isn't there.
func TestText(t *testing.T) {
	d := texts("one", "", "three")
	for _, key := range []int{2, 3, 4} {
		for _, text := range []string{"", "x", "one", "\x00\xff", "a\nb", strings.Repeat("é", 100)} {
			want := with(d, func(d *api.Doc) { d.Nodes[key-1].Text = text })
			checkApply(t, d, setText(key, text), want, api.OK)
		}
	}
	for _, key := range append([]int{0, 1, 5, 100}, far...) {
		checkRefused(t, d, setText(key, "x"), api.ErrChange)
		checkRefused(t, d, setText(key, ""), api.ErrChange)
		checkRefused(t, d, setText(key, strings.Repeat("x", 201)), api.ErrChange)
	}
}

// P7.2: kinds of changes that there aren't, with whatever else would fit.
func TestKinds(t *testing.T) {
	d := doc("0b 1b 2b 1t")
	for kind := range 256 {
		for _, c := range []api.Change{{}, insert(1, 0, aBox), remove(2), move(2, 1, 0), setStyle(2, api.Style{}), setText(4, "x"), insert(1, 0, anError)} {
			c.Kind = uint8(kind)
			if got := checkByHand(t, d, c); kind == 0 || kind > 5 {
				if got != api.ErrChange {
					t.Errorf("kind %d: error %d", kind, got)
				}
			}
		}
	}
}

// P7.2: fields that a kind doesn't name hold whatever: nothing comes of them.
func TestFieldsNotNamed(t *testing.T) {
	d := doc("0b 1b 2b 1t 1b 2t")
	long := strings.Repeat("x", 1<<12)
	numbers := append([]int{0, 1, 2, 3, 4, 5, 6, 7}, far...)
	for i, n := range numbers {
		m := numbers[len(numbers)-1-i]
		odd := api.Node{Key: n, Depth: m, Kind: uint8(n), Style: broken[i%len(broken)], Text: long}
		for _, x := range []struct{ plain, full api.Change }{
			{insert(2, 0, aBox), api.Change{Kind: 1, Key: n, Parent: 2, Node: api.Node{Key: n, Depth: m, Text: long}}},
			{insert(2, 1, aText), api.Change{Kind: 1, Key: n, Parent: 2, At: 1, Node: api.Node{Key: n, Depth: m, Kind: 1, Style: odd.Style, Text: "x"}}},
			{remove(2), api.Change{Kind: 2, Key: 2, Parent: n, At: m, Node: odd}},
			{move(2, 5, 1), api.Change{Kind: 3, Key: 2, Parent: 5, At: 1, Node: odd}},
			{setStyle(2, api.Style{Gap: 4}), api.Change{Kind: 4, Key: 2, Parent: n, At: m, Node: api.Node{Key: n, Depth: m, Kind: uint8(n), Text: long, Style: api.Style{Gap: 4}}}},
			{setText(6, "two"), api.Change{Kind: 5, Key: 6, Parent: n, At: m, Node: api.Node{Key: n, Depth: m, Kind: uint8(n), Style: odd.Style, Text: "two"}}},
		} {
			checkApply(t, d, x.full, mustApply(t, d, x.plain), api.OK)
		}
	}
}

// P7.2: a document of just MaxNodes takes no node more, but all other changes.
func TestFullOfNodes(t *testing.T) {
	d := row(api.MaxNodes-2, 'b')
	full := mustApply(t, d, insert(1, 7, aText))
	if len(full.Nodes) != api.MaxNodes {
		t.Fatalf("%d nodes", len(full.Nodes))
	}
	for _, n := range []api.Node{aBox, aText, aFlex} {
		for _, at := range []int{0, 150, api.MaxNodes - 1} {
			checkRefused(t, full, insert(1, at, n), api.ErrFull)
		}
		checkRefused(t, full, insert(2, 0, n), api.ErrFull)
		checkRefused(t, full, insert(1, api.MaxNodes, n), api.ErrChange)
	}
	checkByHand(t, full, move(2, 1, api.MaxNodes-2))
	checkByHand(t, full, move(2, 3, 0))
	checkByHand(t, full, setStyle(2, aFlex.Style))
	checkByHand(t, full, setText(api.MaxNodes, "y"))
	again := mustApply(t, mustApply(t, full, remove(2)), insert(1, 0, aBox))
	if len(again.Nodes) != api.MaxNodes || again.Next != api.MaxNodes+2 {
		t.Errorf("%d nodes, next %d", len(again.Nodes), again.Next)
	}
}

// P7.2: texts of just MaxText bytes, of just MaxTexts together, and one more.
func TestFullOfTexts(t *testing.T) {
	longest := strings.Repeat("x", api.MaxText)
	text := func(s string) api.Node { return api.Node{Kind: api.NkText, Text: s} }
	d := texts("", "y")
	for many, want := range map[int]api.Errno{0: api.OK, 199: api.OK, 200: api.OK, 201: api.ErrFull, 256: api.ErrFull, 456: api.ErrFull, 1 << 20: api.ErrFull} {
		long := strings.Repeat("x", many)
		for _, c := range []api.Change{insert(1, 0, text(long)), insert(1, 2, text(long)), setText(2, long), setText(3, long)} {
			if got := checkByHand(t, d, c); got != want {
				t.Errorf("%d bytes: error %d, not %d", many, got, want)
			}
		}
	}
	all := texts(append(slices.Repeat([]string{longest}, 7), longest[:99], "")...)
	for many := range 4 {
		want := api.OK
		if many > 1 {
			want = api.ErrFull
		}
		long := longest[:many]
		for _, c := range []api.Change{insert(1, 0, text(long)), insert(1, 9, text(long)), setText(10, long), setText(9, longest[:99+many])} {
			if got := checkByHand(t, all, c); got != want {
				t.Errorf("%d bytes more: error %d, not %d", many, got, want)
			}
		}
	}
	// A text that goes makes room; one that is moved, and a box's, need none.
	full := mustApply(t, all, insert(1, 0, aText))
	checkRefused(t, full, insert(1, 0, aText), api.ErrFull)
	checkRefused(t, full, setText(10, "x"), api.ErrFull)
	checkByHand(t, mustApply(t, full, remove(2)), insert(1, 0, text(longest)))
	checkByHand(t, full, move(2, 1, 9))
	if e := checkByHand(t, full, insert(1, 0, api.Node{Text: longest})); e != api.OK {
		t.Errorf("a box: error %d", e)
	}
}

// P7.2: Next of just MaxKey gives its key away, of one more none; other
// changes go on.
func TestFullOfKeys(t *testing.T) {
	d := with(doc("0b 1b 1t"), func(d *api.Doc) { d.Next = api.MaxKey })
	for _, n := range []api.Node{aBox, aText, aFlex} {
		came := mustApply(t, d, insert(1, 2, n))
		if came.Nodes[3].Key != api.MaxKey || came.Next != api.MaxKey+1 {
			t.Errorf("%s", words(came))
		}
		last := with(d, func(d *api.Doc) { d.Next = api.MaxKey + 1 })
		for _, full := range []api.Doc{came, last} {
			for _, more := range []api.Node{aBox, aText, aFlex} {
				checkRefused(t, full, insert(1, 0, more), api.ErrFull)
			}
			for _, c := range []api.Change{remove(2), move(3, 2, 0), setStyle(2, aFlex.Style), setText(3, "z")} {
				if e := checkByHand(t, full, c); e != api.OK {
					t.Errorf("%s: error %d", told(c), e)
				}
			}
		}
		checkByHand(t, came, remove(api.MaxKey))
		checkRefused(t, with(d, func(d *api.Doc) { d.Next = api.MaxKey + 2 }), insert(1, 0, n), api.ErrDoc)
	}
}

// P7.2: a node put, a tree moved so deep that it is just allowed, and one
// deeper.
func TestFullOfDepth(t *testing.T) {
	d := chain(strings.Repeat("b", api.MaxDeep))
	for _, n := range []api.Node{aBox, aText} {
		for key := 1; key <= api.MaxDeep; key++ {
			want := api.OK
			if key == api.MaxDeep {
				want = api.ErrFull
			}
			if got := checkByHand(t, d, insert(key, 0, n)); got != want {
				t.Errorf("below depth %d: error %d, not %d", key-1, got, want)
			}
		}
	}
	// A tree three deep beside boxes within one another.
	for deepest := 1; deepest < api.MaxDeep; deepest++ {
		two := doc("0b 1b 2b 3t")
		for depth := 1; depth <= deepest; depth++ {
			two.Nodes = append(two.Nodes, node(two.Next, depth, 'b'))
			two.Next++
		}
		for depth := 1; depth <= deepest; depth++ {
			want := api.OK
			if depth+3 > 15 {
				want = api.ErrFull
			}
			if got := checkByHand(t, two, move(2, depth+4, 0)); got != want {
				t.Errorf("below depth %d: error %d, not %d", depth, got, want)
			}
		}
	}
}

// P7.2: a text below a flexible box, put there by each kind of change that
// can.
func TestFullOfTextsInFlexibleBoxes(t *testing.T) {
	d := doc("0b 1f 2b 3t 1t 1b 2t 1b 2b 3t")
	for _, c := range []api.Change{
		insert(2, 0, aText),
		insert(2, 1, aText),
		move(5, 2, 0),
		move(4, 2, 1),
		move(7, 2, 0),
		setStyle(1, aFlex.Style),
		setStyle(3, aFlex.Style),
		setStyle(6, aFlex.Style),
		setStyle(9, aFlex.Style),
	} {
		checkRefused(t, d, c, api.ErrFull)
	}
	for _, c := range []api.Change{
		insert(2, 0, aBox),
		insert(2, 0, aFlex),
		insert(3, 0, aText),
		move(6, 2, 0),
		move(8, 2, 1),
		move(5, 3, 1),
		move(4, 1, 0),
		setStyle(8, aFlex.Style),
		setStyle(2, api.Style{}),
		setText(4, "y"),
		remove(3),
		remove(4),
	} {
		if e := checkByHand(t, d, c); e != api.OK {
			t.Errorf("%s: error %d", told(c), e)
		}
	}
}

// P7.2: a flexible box with just MaxFlex - 1 others above it, with MaxFlex,
// with one more, put there by each kind of change that can.
func TestFullOfFlexibleBoxes(t *testing.T) {
	for many := 1; many <= 6; many++ {
		d := chain(strings.Repeat("f", many) + "b")
		for _, x := range []struct {
			c      api.Change
			within int // how many there are within one another then
		}{
			{insert(many, 0, aFlex), many + 1},
			{insert(many+1, 0, aFlex), many + 1},
			{insert(many+1, 0, aBox), many},
			{insert(1, 0, aFlex), max(many, 2)},
			{setStyle(many+1, aFlex.Style), many + 1},
			{setStyle(many+1, api.Style{Display: api.DInline}), many},
			{setStyle(many, api.Style{}), many - 1},
		} {
			want := api.OK
			if x.within > 6 {
				want = api.ErrFull
			}
			if got := checkByHand(t, d, x.c); got != want {
				t.Errorf("%s, %s: error %d, not %d", words(d), told(x.c), got, want)
			}
		}
	}
	// Two chains below a root: one is moved into the other one.
	for _, first := range []string{"f", "ff", "bf", "fbf", "fbfb", "fff", "ffff", "fffff", "ffffff"} {
		for _, second := range []string{"b", "f", "fb", "ff", "bff", "fffff", "bfffff", "ffffff"} {
			d := doc("0b")
			for _, kinds := range []string{first, second} {
				for i := range len(kinds) {
					d.Nodes = append(d.Nodes, node(d.Next, i+1, kinds[i]))
					d.Next++
				}
			}
			want := api.OK
			if strings.Count(first+second, "f") > 6 {
				want = api.ErrFull
			}
			for _, c := range []api.Change{move(2, d.Next-1, 0), move(2+len(first), 1+len(first), 0)} {
				if got := checkByHand(t, d, c); got != want {
					t.Errorf("%s, %s: error %d, not %d", words(d), told(c), got, want)
				}
			}
			// Side by side they aren't within one another.
			if e := checkByHand(t, d, move(2, 1, 1)); e != api.OK {
				t.Errorf("%s: error %d", words(d), e)
			}
		}
	}
	// The root made flexible above six others.
	d := chain("bffffff")
	checkRefused(t, d, setStyle(1, aFlex.Style), api.ErrFull)
	checkRefused(t, chain("bbbffffffbb"), setStyle(2, aFlex.Style), api.ErrFull)
	if e := checkByHand(t, chain("bfffff"), setStyle(1, aFlex.Style)); e != api.OK {
		t.Errorf("error %d", e)
	}
}

// P7.2: where more than one error could be told, the first one is.
func TestErrorsInOrder(t *testing.T) {
	full := row(api.MaxNodes-1, 'b')
	odd := with(full, func(d *api.Doc) { d.Next = 5 })
	last := with(doc("0b 1b 1t"), func(d *api.Doc) { d.Next = api.MaxKey + 1 })
	deep := chain("bbbbbbbbbbbbbbbf")
	worst := api.Node{Kind: api.NkBox, Style: api.Style{Display: api.DFlex, Gap: -1}}
	for _, x := range []struct {
		d    api.Doc
		c    api.Change
		want api.Errno
	}{
		{odd, insert(1, 0, anError), api.ErrDoc},
		{odd, insert(1, -1, anError), api.ErrDoc},
		{odd, api.Change{}, api.ErrDoc},
		{odd, insert(1, 0, aBox), api.ErrDoc},
		{odd, remove(2), api.ErrDoc},
		{odd, remove(1), api.ErrDoc},
		{api.Doc{}, api.Change{}, api.ErrDoc},
		{full, insert(1, -1, anError), api.ErrChange},
		{full, insert(1, api.MaxNodes, anError), api.ErrChange},
		{full, insert(999, 0, anError), api.ErrChange},
		{full, insert(1, 0, api.Node{Kind: 2, Style: anError.Style}), api.ErrChange},
		{full, insert(1, 0, anError), api.ErrStyle},
		{full, insert(1, 0, aBox), api.ErrFull},
		{full, insert(1, 0, api.Node{Kind: api.NkText, Style: anError.Style}), api.ErrFull},
		{last, insert(1, 0, anError), api.ErrStyle},
		{last, insert(3, 0, anError), api.ErrChange},
		{last, insert(1, 0, aFlex), api.ErrFull},
		{deep, insert(16, 1, anError), api.ErrChange},
		{deep, insert(16, 0, anError), api.ErrStyle},
		{deep, insert(16, 0, aText), api.ErrFull},
		{doc("0f 1b"), insert(1, 2, aText), api.ErrChange},
		{doc("0f 1b"), insert(1, 1, aText), api.ErrFull},
		{doc("0b 1t"), setStyle(2, worst.Style), api.ErrChange},
		{doc("0b 1t"), setStyle(1, worst.Style), api.ErrStyle},
		{doc("0b 1t"), setStyle(1, aFlex.Style), api.ErrFull},
		{doc("0b 1t"), setText(1, strings.Repeat("x", 201)), api.ErrChange},
		{doc("0b 1t"), setText(2, strings.Repeat("x", 201)), api.ErrFull},
		{doc("0f 1b 2t"), move(3, 1, 2), api.ErrChange},
		{doc("0f 1b 2t"), move(3, 1, 1), api.ErrFull},
		{doc("0f 1t"), move(2, 9, 9), api.ErrDoc},
		{with(doc("0b 1b"), func(d *api.Doc) { d.Nodes[1].Style = broken[0] }), remove(2), api.ErrDoc},
		{with(doc("0b 1b"), func(d *api.Doc) { d.Nodes[1].Style = broken[0] }), setStyle(2, api.Style{}), api.ErrDoc},
		{chain("fffffff"), remove(7), api.ErrDoc},
		{chain("fffffff"), setStyle(1, api.Style{}), api.ErrDoc},
	} {
		checkRefused(t, x.d, x.c, x.want)
		checkByHand(t, x.d, x.c)
	}
}

// P7.2, P0.1: documents that may not be, of whatever nodes, tell ErrDoc at all
// changes.
func TestDocsThatMayNotBe(t *testing.T) {
	changes := []api.Change{{}, insert(1, 0, aBox), insert(1, 0, aText), remove(2), move(2, 1, 0), setStyle(2, api.Style{}), setText(2, "x"), {Kind: 255}}
	docs := []api.Doc{
		{}, {Next: 1}, {Next: math.MinInt}, {Next: math.MaxInt}, {Nodes: []api.Node{}}, doc("1b"), doc("0t"), doc("0b 2b"), doc("0b 1t 2b"),
		doc("0f 1t"), chain("fffffff"), chain("bbbbbbbbbbbbbbbbb"), row(api.MaxNodes, 'b'), chain(strings.Repeat("f", 1<<12)),
	}
	for _, n := range far {
		docs = append(docs,
			with(doc("0b 1b 1t"), func(d *api.Doc) { d.Nodes[0].Depth = n }),
			with(doc("0b 1b 1t"), func(d *api.Doc) { d.Nodes[1].Depth = n }),
			with(doc("0b 1b 1t"), func(d *api.Doc) { d.Nodes[2].Depth = n }))
		if n <= 0 || n > 256 {
			docs = append(docs, with(doc("0b 1b 1t"), func(d *api.Doc) { d.Nodes[1].Key = n }))
		}
	}
	for _, d := range docs {
		checkMay(t, d, false)
		for _, c := range changes {
			checkRefused(t, d, c, api.ErrDoc)
		}
	}
}

// P0.4: what is handed in, and the room behind it, stay, and don't count; what
// comes is in memory of its own, and so is the room behind it.
func TestNothingIsShared(t *testing.T) {
	all := doc("0b 1b 2t 1f 2b 1t 1b 1b 1b")
	kept := slices.Clone(all.Nodes)
	changes := []api.Change{
		insert(1, 0, aBox), insert(1, 4, aBox), insert(2, 1, aText), remove(2), remove(6), move(2, 4, 0), move(6, 1, 0), move(2, 1, 0),
		move(6, 1, 3), setStyle(1, api.Style{Gap: 1}), setStyle(6, api.Style{}), setText(3, "y"), setText(6, "one"), remove(9), {},
	}
	for _, c := range changes {
		d := api.Doc{Nodes: all.Nodes[:6], Next: 7}
		alone := api.Doc{Nodes: slices.Clip(slices.Clone(all.Nodes[:6])), Next: 7}
		want, e := mutate.Apply(alone, c)
		checkApply(t, d, c, want, e)
		first, _ := mutate.Apply(d, c)
		second, _ := mutate.Apply(d, c)
		room := second.Nodes[len(second.Nodes):cap(second.Nodes)]
		if slices.ContainsFunc(room, func(n api.Node) bool { return n != api.Node{} }) {
			t.Errorf("%s: behind what comes: %v", told(c), room)
		}
		whole := first.Nodes[:cap(first.Nodes)]
		for i := range whole {
			whole[i] = api.Node{Key: -1, Text: "spoilt"}
		}
		if !tree.Same(second, want) || !tree.Same(d, alone) || !slices.Equal(all.Nodes, kept) {
			t.Fatalf("%s: %s, not %s; handed in %s", told(c), words(second), words(want), words(all))
		}
	}
	mutate.May(all)
	if !slices.Equal(all.Nodes, kept) {
		t.Errorf("%s", words(all))
	}
}

// P7.2: all documents of up to four nodes, and all changes with keys and
// numbers that are there, or just not.
func TestAllSmall(t *testing.T) {
	many := map[api.Errno]int{}
	var all func(d api.Doc)
	all = func(d api.Doc) {
		if mayByHand(d) {
			for _, c := range smallChanges(len(d.Nodes)) {
				many[checkByHand(t, d, c)]++
			}
		}
		if len(d.Nodes) == 4 {
			return
		}
		for depth := range 4 {
			for _, kind := range []byte{'b', 'f', 't'} {
				all(with(d, func(d *api.Doc) {
					d.Nodes = append(d.Nodes, node(d.Next, depth, kind))
					d.Next++
				}))
			}
		}
	}
	all(api.Doc{Next: 1})
	for _, e := range []api.Errno{api.OK, api.ErrChange, api.ErrStyle, api.ErrFull} {
		if many[e] < 200 {
			t.Errorf("error %d: %d times", e, many[e])
		}
	}
}

// smallChanges are changes of a document of so many nodes.
func smallChanges(many int) []api.Change {
	l := []api.Change{{}, {Kind: 6, Key: 2, Parent: 1}}
	for key := range many + 2 {
		l = append(l, remove(key), setText(key, "y"), setStyle(key, api.Style{}), setStyle(key, aFlex.Style), setStyle(key, anError.Style))
		for at := -1; at < many+1; at++ {
			for _, n := range []api.Node{aBox, aText, aFlex, anError, {Kind: 2}} {
				l = append(l, insert(key, at, n))
			}
			for parent := range many + 2 {
				l = append(l, move(key, parent, at))
			}
		}
	}
	return l
}
