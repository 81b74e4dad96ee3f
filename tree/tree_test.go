package tree_test

import (
	"fmt"
	"math"
	"math/rand"
	"reflect"
	"slices"
	"strings"
	"testing"

	"windowpane/api"
	"windowpane/tree"
)

const mostTold = 300 // bytes of a thing in what a test says

// boxes is a document of boxes of these depths, with the keys 1, 2, 3, ...
func boxes(depths ...int) api.Doc {
	d := api.Doc{Next: len(depths) + 1}
	for at, depth := range depths {
		d.Nodes = append(d.Nodes, api.Node{Key: at + 1, Depth: depth})
	}
	return d
}

// row is a document of a root and as many boxes below it.
func row(many int) api.Doc { return boxes(slices.Concat([]int{0}, slices.Repeat([]int{1}, many))...) }

// texts is a document of a root and texts below it.
func texts(l ...string) api.Doc {
	d := row(len(l))
	for i, text := range l {
		d.Nodes[i+1].Kind, d.Nodes[i+1].Text = api.NkText, text
	}
	return d
}

// with is a document in which something is otherwise.
func with(d api.Doc, change func(d *api.Doc)) api.Doc {
	d.Nodes = slices.Clone(d.Nodes)
	change(&d)
	return d
}

func depthsOf(d api.Doc) []int {
	var l []int
	for _, n := range d.Nodes {
		l = append(l, n.Depth)
	}
	return l
}

// brief tells how something begins that may be very long.
func brief(long any) string {
	text := fmt.Sprintf("%v", long)
	if len(text) <= mostTold {
		return text
	}
	return text[:mostTold] + ".."
}

// mayByHand asks the words of a shape one by one.
func mayByHand(d api.Doc) bool {
	all, seen := 0, map[int]int{}
	for at, n := range d.Nodes {
		box, text := n.Kind == 0, n.Kind == 1
		first := at == 0 && n.Depth == 0 && box
		later := at > 0 && n.Depth >= 1 && n.Depth <= 15 && n.Depth-1 <= d.Nodes[at-1].Depth
		if !first && !later || at > 0 && d.Nodes[at-1].Kind == 1 && n.Depth > d.Nodes[at-1].Depth {
			return false
		}
		if n.Key < 1 || n.Key > d.Next-1 || seen[n.Key] > 0 {
			return false
		}
		seen[n.Key]++
		none := reflect.ValueOf(n.Style).IsZero()
		if !(box && n.Text == "") && !(text && none && len(n.Text) <= 200) {
			return false
		}
		all += len(n.Text)
	}
	return len(d.Nodes) > 0 && len(d.Nodes) <= 300 && d.Next <= 1<<30+1 && all <= 1500
}

func endByHand(d api.Doc, at int) int {
	if at < 0 || at >= len(d.Nodes) {
		return -1
	}
	behind := slices.IndexFunc(d.Nodes[at+1:], func(n api.Node) bool { return n.Depth <= d.Nodes[at].Depth })
	if behind < 0 {
		return len(d.Nodes)
	}
	return at + 1 + behind
}

func parentByHand(d api.Doc, at int) int {
	parent := -1
	if at < 0 || at >= len(d.Nodes) || d.Nodes[at].Depth == math.MinInt {
		return parent
	}
	for place, n := range d.Nodes[:at] {
		if n.Depth == d.Nodes[at].Depth-1 {
			parent = place
		}
	}
	return parent
}

func kidsByHand(d api.Doc, at int) []int {
	var kids []int
	for place := at + 1; place < endByHand(d, at); place++ {
		if d.Nodes[place].Depth-1 == d.Nodes[at].Depth {
			kids = append(kids, place)
		}
	}
	return kids
}

func checkMay(t *testing.T, d api.Doc, want bool) {
	t.Helper()
	if got := tree.May(d); got != want {
		t.Fatalf("may %s: %v, not %v", brief(d), got, want)
	}
}

func checkFind(t *testing.T, d api.Doc, key, want int) {
	t.Helper()
	if got := tree.Find(d, key); got != want {
		t.Fatalf("find %d in %s: %d, not %d", key, brief(d), got, want)
	}
}

func checkPlace(t *testing.T, d api.Doc, at, end, parent int, kids []int) {
	t.Helper()
	if got := tree.End(d, at); got != end {
		t.Fatalf("end of %d in depths %s: %d, not %d", at, brief(depthsOf(d)), got, end)
	}
	if got := tree.Parent(d, at); got != parent {
		t.Fatalf("parent of %d in depths %s: %d, not %d", at, brief(depthsOf(d)), got, parent)
	}
	if got := tree.Kids(d, at); !slices.Equal(got, kids) {
		t.Fatalf("kids of %d in depths %s: %s, not %s", at, brief(depthsOf(d)), brief(got), brief(kids))
	}
}

// checkAll holds all calls of a document against what is told by hand.
func checkAll(t *testing.T, d api.Doc) {
	t.Helper()
	checkMay(t, d, mayByHand(d))
	checkPlaces(t, d)
	for key := -2; key < len(d.Nodes)+3; key++ {
		checkFind(t, d, key, slices.IndexFunc(d.Nodes, func(n api.Node) bool { return n.Key == key }))
	}
	checkSame(t, d, tree.Copy(d), true)
}

// checkPlaces does of all places, and of some that are no node's.
func checkPlaces(t *testing.T, d api.Doc) {
	t.Helper()
	for at := -2; at < len(d.Nodes)+2; at++ {
		checkPlace(t, d, at, endByHand(d, at), parentByHand(d, at), kidsByHand(d, at))
	}
}

func checkSame(t *testing.T, a, b api.Doc, want bool) {
	t.Helper()
	if tree.Same(a, b) != want || tree.Same(b, a) != want {
		t.Fatalf("same %s, %s: not %v", brief(a), brief(b), want)
	}
}

// rowsOf goes over all rows of that many of these numbers.
func rowsOf(many int, of []int, do func(l []int)) {
	l := make([]int, many)
	var from func(at int)
	from = func(at int) {
		if at == many {
			do(l)
			return
		}
		for _, n := range of {
			l[at] = n
			from(at + 1)
		}
	}
	from(0)
}

// some is a document with a shape, by the seed, of at most so many nodes.
func some(r *rand.Rand, most int) api.Doc {
	d := boxes(0)
	for len(d.Nodes) < 1+r.Intn(most) {
		last := d.Nodes[len(d.Nodes)-1]
		n := api.Node{Key: d.Next, Kind: uint8(r.Intn(4) / 3)}
		deepest := min(last.Depth+1-int(last.Kind), 15)
		n.Depth = max(1, deepest-r.Intn(3)*r.Intn(3))
		if n.Kind == api.NkText {
			n.Text = strings.Repeat("x", r.Intn(5))
		} else {
			n.Style = api.Style{Grow: r.Intn(3), Padding: [4]int{r.Intn(2)}}
		}
		d.Nodes = append(d.Nodes, n)
		d.Next += 1 + r.Intn(2)
	}
	r.Shuffle(len(d.Nodes), func(i, j int) { d.Nodes[i].Key, d.Nodes[j].Key = d.Nodes[j].Key, d.Nodes[i].Key })
	return d
}

// leaves goes over all single fields of a struct or array, the deeper ones too.
func leaves(v reflect.Value, name string, do func(leaf reflect.Value, name string)) {
	switch v.Kind() {
	case reflect.Struct:
		for i := range v.NumField() {
			leaves(v.Field(i), name+"."+v.Type().Field(i).Name, do)
		}
	case reflect.Array:
		for i := range v.Len() {
			leaves(v.Index(i), fmt.Sprintf("%s.%d", name, i), do)
		}
	default:
		do(v, name)
	}
}

// otherwise gives a field another value.
func otherwise(leaf reflect.Value) {
	switch leaf.Kind() {
	case reflect.Bool:
		leaf.SetBool(!leaf.Bool())
	case reflect.Uint8:
		leaf.SetUint(leaf.Uint() + 1)
	case reflect.Int:
		leaf.SetInt(leaf.Int() - 1)
	case reflect.String:
		leaf.SetString(leaf.String() + "x")
	default:
		panic(leaf.Kind())
	}
}

// P5.1 to P5.4: the rows of the chapter's examples.
func TestExamples(t *testing.T) {
	d := boxes(0, 1, 2, 1)
	checkMay(t, d, true)
	checkMay(t, with(d, func(d *api.Doc) { d.Next = 4 }), false)
	checkMay(t, boxes(0, 2), false)
	checkMay(t, api.Doc{Next: 5}, false)
	checkFind(t, d, 3, 2)
	checkFind(t, d, 9, -1)
	for at, want := range map[int]int{0: 4, 1: 3, 2: 3, 4: -1} {
		if got := tree.End(d, at); got != want {
			t.Errorf("end of %d: %d, not %d", at, got, want)
		}
	}
	for at, want := range map[int]int{0: -1, 2: 1, 3: 0} {
		if got := tree.Parent(d, at); got != want {
			t.Errorf("parent of %d: %d, not %d", at, got, want)
		}
	}
	for at, want := range map[int][]int{0: {1, 3}, 1: {2}, 3: nil} {
		if got := tree.Kids(d, at); !slices.Equal(got, want) {
			t.Errorf("kids of %d: %v, not %v", at, got, want)
		}
	}
}

// P5.1: no nodes, one, just MaxNodes, and more.
func TestMayManyNodes(t *testing.T) {
	for _, next := range []int{math.MinInt, -1, 0, 1, 2, 5, api.MaxKey, api.MaxKey + 1} {
		checkMay(t, api.Doc{Next: next}, false)
		checkMay(t, api.Doc{Nodes: []api.Node{}, Next: next}, false)
		checkMay(t, api.Doc{Nodes: boxes(0).Nodes, Next: next}, next > 1)
	}
	for _, many := range []int{0, 1, 2, api.MaxNodes - 2, api.MaxNodes - 1} {
		checkMay(t, row(many), true)
	}
	for _, many := range []int{api.MaxNodes, api.MaxNodes + 1, 2 * api.MaxNodes, 1 << 16} {
		checkMay(t, row(many), false)
	}
}

// P5.1: depths that go down, leap, come back up, and lie near the least and
// the greatest numbers.
func TestMayDepths(t *testing.T) {
	down := []int{0, 1, 2, 3, 4, 5, 6, 7, 8, 9, 10, 11, 12, 13, 14, 15}
	for many := 1; many <= len(down); many++ {
		checkMay(t, boxes(down[:many]...), true)
	}
	most := api.MaxDeep - 1
	for depth := -3; depth < 40; depth++ {
		checkMay(t, boxes(slices.Concat(down, []int{depth})...), depth >= 1 && depth <= most)
		checkMay(t, boxes(slices.Concat(down, []int{depth, most})...), depth == most-1 || depth == most)
		checkMay(t, boxes(slices.Concat(down[:most], []int{depth})...), depth >= 1 && depth <= most)
		checkMay(t, boxes(0, depth), depth == 1)
		checkMay(t, boxes(0, 1, depth), depth == 1 || depth == 2)
		checkMay(t, boxes(0, 1, 2, 3, depth, 1), depth >= 1 && depth <= 4)
		checkMay(t, boxes(depth), depth == 0)
		checkMay(t, boxes(depth, depth+1), depth == 0)
		checkMay(t, boxes(depth, 1), depth == 0)
	}
	for _, l := range [][]int{
		{0, 1, 2, 1, 3}, {0, 1, 0}, {0, 1, 2, 0, 1}, {0, 0}, {0, 1, 1, 1, 3}, {1}, {1, 2}, {-1}, {-1, 0}, {0, -1},
		{math.MinInt}, {math.MaxInt}, {math.MaxInt, math.MinInt}, {math.MinInt, math.MaxInt}, {math.MinInt, math.MinInt + 1},
		{0, math.MinInt}, {0, math.MaxInt}, {0, 1, math.MaxInt}, {0, 1, math.MinInt}, {0, math.MaxInt, math.MinInt},
		{0, math.MaxInt, 1}, {0, math.MinInt, 1}, {0, 1, math.MaxInt - 1, math.MaxInt}, {0, 1 << 32}, {0, 1<<32 + 1}, {1 << 32, 1}, {0, 257}, {256, 1},
	} {
		checkMay(t, boxes(l...), false)
	}
}

// P5.1: kinds that there are, and others; the first one a box; nothing stands
// below a text.
func TestMayKinds(t *testing.T) {
	kinds := func(d api.Doc, l ...uint8) api.Doc {
		return with(d, func(d *api.Doc) {
			for at, kind := range l {
				d.Nodes[at].Kind = kind
			}
		})
	}
	for kind := range 256 {
		k := uint8(kind)
		checkMay(t, kinds(boxes(0), k), k == api.NkBox)
		checkMay(t, kinds(boxes(0, 1), k), k == api.NkBox)
		checkMay(t, kinds(boxes(0, 1), 0, k), k == api.NkBox || k == api.NkText)
		checkMay(t, kinds(boxes(0, 1, 2), 0, k), k == api.NkBox)
		checkMay(t, kinds(boxes(0, 1, 1), 0, k), k == api.NkBox || k == api.NkText)
		checkMay(t, kinds(boxes(0, 1, 1), 0, api.NkText, k), k == api.NkBox || k == api.NkText)
	}
	for _, x := range []struct {
		depths []int
		text   int
		may    bool
	}{
		{[]int{0, 1, 2, 3}, 3, true},
		{[]int{0, 1, 2, 3}, 2, false},
		{[]int{0, 1, 2, 3}, 1, false},
		{[]int{0, 1, 2, 2, 1}, 2, true},
		{[]int{0, 1, 2, 1, 2}, 2, true},
		{[]int{0, 1, 2, 1, 2}, 3, false},
		{[]int{0, 1, 2, 1, 1}, 2, true},
		{[]int{0, 1, 2, 3, 1}, 3, true},
		{[]int{0, 1, 1, 2}, 1, true},
		{[]int{0, 1, 1, 2}, 2, false},
	} {
		d := boxes(x.depths...)
		d.Nodes[x.text].Kind = api.NkText
		checkMay(t, d, x.may)
		d.Nodes[x.text].Text = "one"
		checkMay(t, d, x.may)
	}
	deep := boxes(0, 1, 2, 3, 4, 5, 6, 7, 8, 9, 10, 11, 12, 13, 14, 15, 15)
	checkMay(t, with(deep, func(d *api.Doc) { d.Nodes[15].Kind, d.Nodes[16].Kind = api.NkText, api.NkText }), true)
}

// P5.1: keys that come twice, at any two places; that are 0 or less; that are
// just Next, or more.
func TestMayKeys(t *testing.T) {
	d := with(boxes(0, 1, 2, 1, 2), func(d *api.Doc) { d.Next = 100 })
	for at := range d.Nodes {
		for key, may := range map[int]bool{
			math.MinInt: false, -api.MaxKey: false, -1: false, 0: false, 99: true, 100: false, 101: false,
			api.MaxKey: false, api.MaxKey + 1: false, 1 << 32: false, 1<<32 + 1: false, math.MaxInt: false, at + 1: true, at + 50: true,
		} {
			checkMay(t, with(d, func(d *api.Doc) { d.Nodes[at].Key = key }), may)
		}
		for other := range d.Nodes {
			checkMay(t, with(d, func(d *api.Doc) { d.Nodes[at].Key = d.Nodes[other].Key }), at == other)
		}
	}
	many := row(api.MaxNodes - 1)
	checkMay(t, with(many, func(d *api.Doc) { slices.Reverse(d.Nodes[1:]) }), true)
	for _, twice := range [][2]int{{0, 299}, {299, 0}, {1, 150}, {298, 299}} {
		checkMay(t, with(many, func(d *api.Doc) { d.Nodes[twice[0]].Key = d.Nodes[twice[1]].Key }), false)
	}
	// Far apart: keys between which there is much room.
	far := with(boxes(0, 1, 1), func(d *api.Doc) { d.Nodes[0].Key, d.Nodes[1].Key, d.Next = api.MaxKey, 1, api.MaxKey+1 })
	checkMay(t, far, true)
	checkMay(t, with(far, func(d *api.Doc) { d.Nodes[1].Key = api.MaxKey }), false)
}

// P5.1: Next that no key reaches, of just MaxKey + 1, and more.
func TestMayNext(t *testing.T) {
	d := boxes(0, 1, 1)
	for next, may := range map[int]bool{
		math.MinInt: false, -1: false, 0: false, 1: false, 2: false, 3: false, 4: true, 5: true, 1000: true,
		api.MaxKey - 1: true, api.MaxKey: true, api.MaxKey + 1: true, api.MaxKey + 2: false, 1 << 31: false, 1 << 32: false, 1<<32 + 4: false, math.MaxInt: false,
	} {
		checkMay(t, with(d, func(d *api.Doc) { d.Next = next }), may)
	}
	for _, key := range []int{api.MaxKey - 1, api.MaxKey, api.MaxKey + 1, api.MaxKey + 2, math.MaxInt - 1} {
		for _, next := range []int{key, key + 1} {
			last := with(d, func(d *api.Doc) { d.Nodes[2].Key, d.Next = key, next })
			checkMay(t, last, next == key+1 && key <= api.MaxKey)
		}
	}
}

// P5.1: texts of just MaxText bytes, and longer ones; of any bytes, or none.
func TestMayText(t *testing.T) {
	for many := range 2 * api.MaxText {
		long := strings.Repeat("x", many)
		checkMay(t, texts(long), many <= api.MaxText)
		checkMay(t, texts("", long, "one"), many <= api.MaxText)
		checkMay(t, texts(strings.Repeat("é", many)), 2*many <= api.MaxText)
	}
	for _, text := range []string{"\x00", "\xff\xfe", "\n", " ", "é", "e\u0301", "\U0001F600", strings.Repeat("\xff", api.MaxText)} {
		checkMay(t, texts(text), true)
	}
	checkMay(t, texts(strings.Repeat("x", 256)), false)
	checkMay(t, texts(strings.Repeat("x", 1<<20)), false)
}

// P5.1: texts of just MaxTexts bytes together, and more.
func TestMayTexts(t *testing.T) {
	longest := strings.Repeat("x", api.MaxText)
	for many := 90; many <= 110; many++ {
		for rest := range many + 1 {
			l := slices.Concat(slices.Repeat([]string{longest}, 7), []string{longest[:rest], longest[:many-rest]})
			checkMay(t, texts(l...), many <= 100)
			slices.Reverse(l)
			checkMay(t, texts(l...), many <= 100)
		}
	}
	for _, each := range []int{1, 5, 6, 50} {
		for _, many := range []int{api.MaxTexts/each - 1, api.MaxTexts / each, api.MaxTexts/each + 1} {
			d := texts(slices.Repeat([]string{longest[:each]}, many)...)
			checkMay(t, d, each*many <= api.MaxTexts && many < api.MaxNodes)
		}
	}
	checkMay(t, texts(slices.Repeat([]string{longest}, 8)...), false)
	checkMay(t, texts(slices.Repeat([]string{longest}, api.MaxNodes-1)...), false)
	checkMay(t, texts(slices.Repeat([]string{""}, api.MaxNodes-1)...), true)
	deep := texts(slices.Repeat([]string{longest}, 8)...)
	deep.Nodes[8].Text = longest[:101]
	checkMay(t, deep, false)
	deep.Nodes[8].Text = longest[:100]
	checkMay(t, deep, true)
}

// P5.1: boxes with a text; texts with a style, whichever field of it; boxes
// may have any style.
func TestMayContents(t *testing.T) {
	for _, text := range []string{"x", " ", "\x00", strings.Repeat("x", api.MaxText)} {
		for at := range 3 {
			checkMay(t, with(boxes(0, 1, 2), func(d *api.Doc) { d.Nodes[at].Text = text }), false)
		}
	}
	var style api.Style
	fields := 0
	leaves(reflect.ValueOf(&style).Elem(), "", func(leaf reflect.Value, name string) {
		style = api.Style{}
		otherwise(leaf)
		for _, d := range []api.Doc{texts("x"), texts(""), texts("x", "y"), texts("y", "x")} {
			last := len(d.Nodes) - 1
			d.Nodes[last].Style = style
			if tree.May(d) {
				t.Errorf("text with the field %s", name)
			}
			d.Nodes[last].Kind, d.Nodes[last].Text = api.NkBox, ""
			if !tree.May(d) {
				t.Errorf("box with the field %s", name)
			}
		}
		fields++
	})
	if fields < 40 {
		t.Errorf("%d fields", fields)
	}
	// Such as no box may have in chapter 6 count for nothing here.
	odd := api.Style{Display: 9, Ws: 9, Lines: 9, Valign: 9, Dir: 9, Justify: 9, Align: 9, Width: api.Length{Kind: 9, N: -1},
		Padding: [4]int{-1, -1, -1, -1}, Border: [4]int{math.MinInt}, OffX: math.MaxInt, Font: -1, Grow: -1, Order: math.MaxInt}
	for at := range 3 {
		checkMay(t, with(boxes(0, 1, 2), func(d *api.Doc) { d.Nodes[at].Style = odd }), true)
	}
}

// P5.1 to P5.4: all documents of up to six boxes of depths from -1 to 3 (of
// up to four nodes: of boxes and texts, and of keys from 0 to 4).
func TestAllSmall(t *testing.T) {
	for many := range 7 {
		rowsOf(many, []int{-1, 0, 1, 2, 3}, func(l []int) {
			checkMay(t, boxes(l...), mayByHand(boxes(l...)))
			checkPlaces(t, boxes(l...))
		})
	}
	for many := range 5 {
		rowsOf(many, []int{0, 1, 2, 3, 10, 11, 12, 13}, func(l []int) {
			d := boxes(l...)
			for at := range d.Nodes {
				d.Nodes[at].Kind, d.Nodes[at].Depth = uint8(l[at]/10), l[at]%10
			}
			checkMay(t, d, mayByHand(d))
		})
		rowsOf(many, []int{0, 1, 2, 3, 4}, func(l []int) {
			d := with(boxes(0, 1, 1, 2), func(d *api.Doc) { d.Nodes, d.Next = d.Nodes[:many], 4 })
			for at := range d.Nodes {
				d.Nodes[at].Key = l[at]
			}
			checkAll(t, d)
		})
	}
}

// P5.1 to P5.4: documents with a shape, by a fixed seed, and such as something
// of is otherwise.
func TestByHand(t *testing.T) {
	r := rand.New(rand.NewSource(1))
	may, not := 0, 0
	for range 4000 {
		d := some(r, 40)
		if !tree.May(d) {
			t.Fatalf("may not: %s", brief(d))
		}
		for range r.Intn(3) {
			n := &d.Nodes[r.Intn(len(d.Nodes))]
			switch r.Intn(6) {
			case 0:
				n.Depth += r.Intn(5) - 2
			case 1:
				n.Key = r.Intn(d.Next + 2)
			case 2:
				n.Kind = uint8(r.Intn(3))
			case 3:
				n.Text = strings.Repeat("x", r.Intn(250)*r.Intn(2))
			case 4:
				n.Style.Order = r.Intn(2)
			case 5:
				d.Next -= r.Intn(2)
			}
		}
		checkAll(t, d)
		if tree.May(d) {
			may++
		} else {
			not++
		}
	}
	if may < 1000 || not < 1000 {
		t.Errorf("%d may, %d not", may, not)
	}
}

// P5.3, P5.4: documents of any nodes, by a fixed seed, of depths and keys near
// 0, and near the least and the greatest numbers.
func TestAnyNodes(t *testing.T) {
	r := rand.New(rand.NewSource(2))
	around := []int{0, 0, 0, 5, math.MinInt, math.MaxInt, math.MaxInt - 1, 1 << 32, api.MaxKey}
	for range 4000 {
		d := api.Doc{Next: r.Int()}
		middle := around[r.Intn(len(around))]
		for range r.Intn(25) {
			if r.Intn(8) == 0 {
				middle = around[r.Intn(len(around))]
			}
			d.Nodes = append(d.Nodes, api.Node{Depth: middle + r.Intn(5) - 2, Key: middle + r.Intn(5) - 2, Kind: uint8(r.Intn(256))})
		}
		checkAll(t, d)
		for _, n := range d.Nodes {
			for key := n.Key - 1; key != n.Key+2; key++ {
				checkFind(t, d, key, slices.IndexFunc(d.Nodes, func(n api.Node) bool { return n.Key == key }))
			}
		}
	}
}

// P5.2, Copy: the same document, whatever its shape, in memory of its own.
func TestCopy(t *testing.T) {
	r := rand.New(rand.NewSource(3))
	for many := range 200 {
		d := some(r, 1+many)
		d.Next = r.Int()
		d.Nodes[r.Intn(len(d.Nodes))].Text = "one"
		want := with(d, func(*api.Doc) {})
		got, again := tree.Copy(d), tree.Copy(d)
		if !reflect.DeepEqual(got, want) {
			t.Fatalf("copy %s: %s", brief(want), brief(got))
		}
		clear(got.Nodes[:cap(got.Nodes)])
		if !reflect.DeepEqual(d, want) || !reflect.DeepEqual(again, want) {
			t.Fatalf("copy %s: %s, %s", brief(want), brief(d), brief(again))
		}
		clear(d.Nodes)
		if !reflect.DeepEqual(again, want) {
			t.Fatalf("copy %s: %s", brief(want), brief(again))
		}
	}
	for _, d := range []api.Doc{{}, {Next: -7}, {Nodes: []api.Node{}, Next: 7}, {Nodes: boxes(0, 1).Nodes[:0], Next: 3}} {
		got := tree.Copy(d)
		if len(got.Nodes) > 0 || got.Next != d.Next {
			t.Errorf("copy %v: %v", d, got)
		}
		// What is behind a list of nothing isn't handed on either.
		for _, n := range got.Nodes[:cap(got.Nodes)] {
			if n != (api.Node{}) {
				t.Errorf("copy %v: behind it %v", d, n)
			}
		}
	}
}

// P5.2, Same: each field of each node, and Next.
func TestSameFields(t *testing.T) {
	d := texts("one", "two")
	d.Nodes[0].Style = api.Style{Margin: [4]api.Length{{Kind: api.LFixed, N: 7}}, Wrap: true}
	fields := 0
	for at := range d.Nodes {
		other := tree.Copy(d)
		leaves(reflect.ValueOf(&other.Nodes[at]).Elem(), "", func(leaf reflect.Value, name string) {
			kept := other.Nodes[at]
			checkSame(t, d, other, true)
			otherwise(leaf)
			if tree.Same(d, other) || tree.Same(other, d) {
				t.Errorf("node %d: same but for %s", at, name)
			}
			other.Nodes[at] = kept
			fields++
		})
	}
	if fields < 3*44 {
		t.Errorf("%d fields", fields)
	}
	for _, next := range []int{0, -1, 3, 5, 4 + 1<<32, math.MinInt, math.MaxInt} {
		checkSame(t, d, with(d, func(d *api.Doc) { d.Next = next }), false)
	}
}

// P5.2, Same: nodes that are more, fewer, or turned about; none.
func TestSameNodes(t *testing.T) {
	d := boxes(0, 1, 2, 1)
	for _, other := range []api.Doc{
		with(d, func(d *api.Doc) { d.Nodes = d.Nodes[:3] }),
		with(d, func(d *api.Doc) { d.Nodes = d.Nodes[1:] }),
		with(d, func(d *api.Doc) { d.Nodes = nil }),
		with(d, func(d *api.Doc) { d.Nodes = append(d.Nodes, api.Node{}) }),
		with(d, func(d *api.Doc) { d.Nodes = append(d.Nodes, d.Nodes[3]) }),
		with(d, func(d *api.Doc) { d.Nodes[1], d.Nodes[3] = d.Nodes[3], d.Nodes[1] }),
		with(d, func(d *api.Doc) { d.Nodes[0], d.Nodes[3] = d.Nodes[3], d.Nodes[0] }),
	} {
		checkSame(t, d, other, false)
		checkSame(t, other, other, true)
	}
	checkSame(t, d, d, true)
	checkSame(t, d, boxes(0, 1, 2, 1), true)
	checkSame(t, d, with(d, func(d *api.Doc) { d.Nodes = append(d.Nodes, api.Node{Key: 9})[:4] }), true)
	checkSame(t, api.Doc{}, api.Doc{Nodes: []api.Node{}}, true)
	checkSame(t, api.Doc{}, api.Doc{Nodes: d.Nodes[:0]}, true)
	checkSame(t, api.Doc{}, api.Doc{Nodes: make([]api.Node, 1)}, false)
	checkSame(t, api.Doc{}, api.Doc{Next: 1}, false)
	// Whatever their shape.
	odd := api.Doc{Nodes: []api.Node{{Key: -1, Depth: math.MaxInt, Kind: 9, Text: "\xff"}, {Depth: math.MinInt}}, Next: -5}
	checkSame(t, odd, tree.Copy(odd), true)
	checkSame(t, odd, with(odd, func(d *api.Doc) { d.Nodes[0].Text = "\ufffd" }), false)
	long := row(5000)
	checkSame(t, long, tree.Copy(long), true)
	checkSame(t, long, with(long, func(d *api.Doc) { d.Nodes[5000].Depth = 2 }), false)
}

// P5.3: the first one of several nodes with a key; keys of no shape; none.
func TestFind(t *testing.T) {
	var d api.Doc
	keys := []int{7, 0, -1, 7, math.MinInt, 0, math.MaxInt, 3, -1, 1 << 32}
	for _, key := range keys {
		d.Nodes = append(d.Nodes, api.Node{Key: key, Depth: -key})
	}
	for _, key := range keys {
		checkFind(t, d, key, slices.Index(keys, key))
	}
	for _, key := range []int{1, 2, 4, -7, -3, math.MinInt + 1, math.MaxInt - 1, 1<<32 + 7, 1<<32 + 3} {
		checkFind(t, d, key, -1)
	}
	for _, key := range []int{0, 1, -1, math.MinInt, math.MaxInt} {
		checkFind(t, api.Doc{Next: 2}, key, -1)
		checkFind(t, api.Doc{Nodes: d.Nodes[:0]}, key, -1)
	}
	long := row(1 << 16)
	checkFind(t, long, 1<<16+1, 1<<16)
	checkFind(t, long, 1<<16+2, -1)
}

// P5.4: places that are no node's, of any document.
func TestPlacesThatAreNoNodes(t *testing.T) {
	for _, d := range []api.Doc{
		{}, {Next: 9}, {Nodes: []api.Node{}}, {Nodes: boxes(0, 1, 2).Nodes[:0]}, {Nodes: boxes(0, 1, 2).Nodes[:1]},
		boxes(0), boxes(0, 1, 2, 1), boxes(math.MaxInt, math.MinInt), row(5000),
	} {
		many := len(d.Nodes)
		for _, at := range []int{-1, -2, -many, -many - 1, many, many + 1, many + 2, 2*many + 1, 1 << 32, 1 << 62, -1 << 32, math.MinInt, math.MinInt + 1, math.MaxInt - 1, math.MaxInt} {
			if at != 0 {
				checkPlace(t, d, at, -1, -1, nil)
			}
		}
	}
	checkPlace(t, api.Doc{}, 0, -1, -1, nil)
}

// P5.4: depths of no shape: that leap, that are less than 0, that lie at the
// least and the greatest numbers.
func TestPlacesOfAnyDepths(t *testing.T) {
	for _, x := range []struct {
		depths          []int
		at, end, parent int
		kids            []int
	}{
		{[]int{0, 2, 1}, 0, 3, -1, []int{2}},
		{[]int{0, 2, 1}, 1, 2, -1, nil},
		{[]int{0, 2, 1}, 2, 3, 0, nil},
		{[]int{1, 0, 2}, 0, 1, -1, nil},
		{[]int{1, 0, 2}, 1, 3, -1, nil},
		{[]int{1, 0, 2}, 2, 3, 0, nil},
		{[]int{0, 0, 1}, 0, 1, -1, nil},
		{[]int{0, 0, 1}, 2, 3, 1, nil},
		{[]int{0, 1, 3, 2, 3, 1}, 1, 5, 0, []int{3}},
		{[]int{0, 1, 3, 2, 3, 1}, 2, 3, -1, nil},
		{[]int{-2, -1, 0, -1}, 0, 4, -1, []int{1, 3}},
		{[]int{-2, -1, 0, -1}, 1, 3, 0, []int{2}},
		{[]int{3, 2, 1, 0}, 0, 1, -1, nil},
		{[]int{3, 2, 1, 0}, 3, 4, -1, nil},
		{[]int{math.MaxInt, math.MinInt}, 0, 1, -1, nil},
		{[]int{math.MaxInt, math.MinInt}, 1, 2, -1, nil},
		{[]int{math.MinInt, math.MaxInt}, 0, 2, -1, nil},
		{[]int{math.MinInt, math.MaxInt}, 1, 2, -1, nil},
		{[]int{math.MinInt, math.MinInt + 1, math.MaxInt}, 0, 3, -1, []int{1}},
		{[]int{math.MinInt, math.MinInt + 1, math.MaxInt}, 1, 3, 0, nil},
		{[]int{math.MaxInt - 1, math.MaxInt, math.MaxInt}, 0, 3, -1, []int{1, 2}},
		{[]int{math.MaxInt - 1, math.MaxInt, math.MaxInt}, 2, 3, 0, nil},
		{[]int{math.MaxInt, math.MaxInt}, 0, 1, -1, nil},
		{[]int{math.MinInt, math.MinInt}, 1, 2, -1, nil},
		{[]int{math.MaxInt, 0, 1, math.MinInt}, 3, 4, -1, nil},
		{[]int{0, 1 << 32, 1<<32 + 1}, 0, 3, -1, nil},
		{[]int{0, 1 << 32, 1<<32 + 1}, 2, 3, 1, nil},
	} {
		checkPlace(t, boxes(x.depths...), x.at, x.end, x.parent, x.kids)
	}
}

// P5.4: of kinds that have no kids, and of none: the depths alone count.
func TestPlacesOfAnyKinds(t *testing.T) {
	d := boxes(0, 1, 2, 1)
	for kind := range 256 {
		for at := range d.Nodes {
			d.Nodes[at] = api.Node{Kind: uint8(kind), Depth: d.Nodes[at].Depth, Key: 7, Text: "x"}
		}
		checkPlace(t, d, 0, 4, -1, []int{1, 3})
		checkPlace(t, d, 1, 3, 0, []int{2})
		checkPlace(t, d, 2, 3, 1, nil)
		checkPlace(t, d, 3, 4, 0, nil)
	}
}

// P5.4: documents of very many nodes, in a row, or each below the last one.
func TestPlacesOfManyNodes(t *testing.T) {
	const many = 1 << 17
	d := row(many)
	kids := make([]int, many)
	for i := range kids {
		kids[i] = i + 1
	}
	checkPlace(t, d, 0, many+1, -1, kids)
	checkPlace(t, d, many, many+1, 0, nil)
	for at := range d.Nodes {
		d.Nodes[at].Depth = at
	}
	checkPlace(t, d, 0, many+1, -1, []int{1})
	checkPlace(t, d, many/2, many+1, many/2-1, []int{many/2 + 1})
	checkPlace(t, d, many, many+1, many-1, nil)
}

// shaped goes over documents with a shape: all of up to seven boxes, and
// others by a fixed seed.
func shaped(t *testing.T, do func(d api.Doc)) {
	many := 0
	for nodes := range 7 {
		rowsOf(nodes, []int{1, 2, 3, 4, 5, 6}, func(l []int) {
			if d := boxes(slices.Concat([]int{0}, l)...); tree.May(d) {
				many++
				do(d)
			}
		})
	}
	// As many as there are trees of up to seven nodes.
	if many != 1+1+2+5+14+42+132 {
		t.Errorf("%d documents", many)
	}
	r := rand.New(rand.NewSource(4))
	for range 300 {
		do(some(r, 60))
	}
	do(some(rand.New(rand.NewSource(5)), api.MaxNodes))
	do(row(api.MaxNodes - 1))
}

// P5.5: each node but the first has a parent, and is one of its kids, and
// nobody else's.
func TestParentsAndKids(t *testing.T) {
	shaped(t, func(d api.Doc) {
		kidOf := make([][]int, len(d.Nodes))
		for at := range d.Nodes {
			for _, kid := range tree.Kids(d, at) {
				kidOf[kid] = append(kidOf[kid], at)
			}
		}
		if parent := tree.Parent(d, 0); parent != -1 || kidOf[0] != nil {
			t.Fatalf("depths %s: the first one's parent %d, a kid of %v", brief(depthsOf(d)), parent, kidOf[0])
		}
		for at := 1; at < len(d.Nodes); at++ {
			parent := tree.Parent(d, at)
			if parent < 0 || parent >= at || d.Nodes[parent].Kind != api.NkBox || !slices.Equal(kidOf[at], []int{parent}) {
				t.Fatalf("depths %s: the parent of %d %d, a kid of %v", brief(depthsOf(d)), at, parent, kidOf[at])
			}
		}
	})
}

// P5.5: the trees of two nodes lie within one another, or apart; the first
// one's is all.
func TestTreesWithinOneAnother(t *testing.T) {
	shaped(t, func(d api.Doc) {
		ends := make([]int, len(d.Nodes))
		for at := range ends {
			ends[at] = tree.End(d, at)
		}
		if ends[0] != len(d.Nodes) {
			t.Fatalf("depths %s: the first one's tree ends at %d", brief(depthsOf(d)), ends[0])
		}
		for upper, end := range ends {
			if end <= upper {
				t.Fatalf("depths %s: the tree of %d ends at %d", brief(depthsOf(d)), upper, end)
			}
			for lower := upper + 1; lower < len(ends); lower++ {
				if within, apart := ends[lower] <= end, lower >= end; !within && !apart {
					t.Fatalf("depths %s: the trees of %d and %d end at %d and %d", brief(depthsOf(d)), upper, lower, end, ends[lower])
				}
			}
		}
	})
}

// P5.6: a node's kids' trees, one behind the other, are its own without it.
func TestKidsSideBySide(t *testing.T) {
	shaped(t, func(d api.Doc) {
		for at := range d.Nodes {
			next := at + 1
			for _, kid := range tree.Kids(d, at) {
				if kid != next {
					t.Fatalf("depths %s: a kid of %d at %d, not %d", brief(depthsOf(d)), at, kid, next)
				}
				next = tree.End(d, kid)
			}
			if end := tree.End(d, at); end != next {
				t.Fatalf("depths %s: the tree of %d ends at %d, its kids' at %d", brief(depthsOf(d)), at, end, next)
			}
		}
	})
}

// P0.4: what is handed in, and the room behind it, stay as they are, and don't
// count.
func TestNothingIsChanged(t *testing.T) {
	r := rand.New(rand.NewSource(6))
	for range 200 {
		all := slices.Concat(some(r, 20).Nodes, some(r, 20).Nodes)
		kept := slices.Clone(all)
		for end := range all {
			d := api.Doc{Nodes: all[:end], Next: 1000}
			alone := api.Doc{Nodes: slices.Clip(slices.Clone(all[:end])), Next: 1000}
			checkMay(t, d, tree.May(alone))
			checkSame(t, d, alone, true)
			checkFind(t, d, 1, tree.Find(alone, 1))
			for at := -1; at < end+2; at++ {
				checkPlace(t, d, at, tree.End(alone, at), tree.Parent(alone, at), tree.Kids(alone, at))
			}
			tree.Copy(d)
			if !slices.Equal(all, kept) {
				t.Fatalf("%s, not %s", brief(all), brief(kept))
			}
		}
	}
}

// P0.4: kids are told in new memory, and so is the room behind them.
func TestKidsShareNothing(t *testing.T) {
	d := row(20)
	want := kidsByHand(d, 0)
	first, second := tree.Kids(d, 0), tree.Kids(d, 0)
	clear(first[:cap(first)])
	if !slices.Equal(second, want) || !slices.Equal(tree.Kids(d, 0), want) {
		t.Errorf("%v, not %v", second, want)
	}
	if rest := second[len(second):cap(second)]; slices.ContainsFunc(rest, func(n int) bool { return n != 0 }) {
		t.Errorf("behind them: %v", rest)
	}
}
