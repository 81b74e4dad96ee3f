package mutate_test

import (
	"math"
	"math/rand"
	"slices"
	"strings"
	"testing"

	"windowpane/api"
)

// P7.1: documents without a shape, and the least ones with one.
func TestMayShape(t *testing.T) {
	for _, words := range []string{"0b", "0i", "0f", "0b 1b", "0b 1t", "0b 1b 2b 1b", "0f 1b 2t", "0b 1b 2t 2b 1t"} {
		checkMay(t, doc(words), true)
	}
	for _, words := range []string{"", "1b", "0t", "0b 2b", "0b 0b", "0b 1t 2b", "0b 1t 2t", "0b 1b 2t 3b"} {
		checkMay(t, doc(words), false)
	}
	four := doc("0b 1b 2t 1f")
	for _, change := range []func(d *api.Doc){
		func(d *api.Doc) { d.Next = 4 },
		func(d *api.Doc) { d.Next = 0 },
		func(d *api.Doc) { d.Next = api.MaxKey + 2 },
		func(d *api.Doc) { d.Nodes[3].Key = 1 },
		func(d *api.Doc) { d.Nodes[0].Key = 0 },
		func(d *api.Doc) { d.Nodes[2].Kind = 2 },
		func(d *api.Doc) { d.Nodes[0].Kind = 255 },
		func(d *api.Doc) { d.Nodes[1].Text = "x" },
		func(d *api.Doc) { d.Nodes[3].Text = "x" },
		func(d *api.Doc) { d.Nodes[2].Style.Wrap = true },
		func(d *api.Doc) { d.Nodes[2].Text = strings.Repeat("x", api.MaxText+1) },
		func(d *api.Doc) { d.Nodes = nil },
		func(d *api.Doc) { d.Nodes[3].Depth = math.MaxInt },
		func(d *api.Doc) { d.Nodes[3].Depth = math.MinInt },
		func(d *api.Doc) { d.Nodes[0].Depth = math.MaxInt },
		func(d *api.Doc) { d.Nodes[0].Depth = math.MinInt },
		func(d *api.Doc) { d.Nodes[3].Depth = api.MaxDeep },
	} {
		checkMay(t, with(four, change), false)
	}
	checkMay(t, with(four, func(d *api.Doc) { d.Next = api.MaxKey + 1 }), true)
	checkMay(t, api.Doc{}, false)
	checkMay(t, api.Doc{Nodes: []api.Node{}, Next: 5}, false)
}

// P7.1: just MaxNodes nodes, just MaxTexts bytes of texts, and one more; just
// MaxDeep deep, and one deeper; far too many, far too deep.
func TestMayLimits(t *testing.T) {
	longest := strings.Repeat("x", api.MaxText)
	for _, kind := range []byte{'b', 'f', 'i', 't'} {
		checkMay(t, row(api.MaxNodes-1, kind), true)
		checkMay(t, row(api.MaxNodes, kind), false)
		checkMay(t, row(1<<16, kind), false)
	}
	l := append(slices.Repeat([]string{longest}, 7), longest[:100])
	checkMay(t, texts(l...), true)
	checkMay(t, texts(append(l, "")...), true)
	checkMay(t, texts(append(l, "x")...), false)
	checkMay(t, chain(strings.Repeat("b", api.MaxDeep)), true)
	checkMay(t, chain(strings.Repeat("b", api.MaxDeep+1)), false)
	checkMay(t, chain(strings.Repeat("f", api.MaxDeep+1)), false)
	checkMay(t, chain(strings.Repeat("b", 1<<16)), false)
}

// P7.1: each box's style must be one that may be, wherever it stands.
func TestMayStyles(t *testing.T) {
	d := doc("0b 1b 2i 2t 1f 2b")
	for _, s := range broken {
		for at := range d.Nodes {
			checkMay(t, with(d, func(d *api.Doc) { d.Nodes[at].Style = s }), false)
		}
	}
	wide := api.Style{Whole: true, Width: api.Length{Kind: api.LPart, N: api.MaxPart}, Padding: [4]int{1, 2, 3, api.MaxLength}}
	for at := range d.Nodes {
		checkMay(t, with(d, func(d *api.Doc) { d.Nodes[at].Style = wide }), d.Nodes[at].Kind == api.NkBox)
	}
	many := row(api.MaxNodes-1, 'b')
	for _, at := range []int{0, 1, 150, api.MaxNodes - 1} {
		checkMay(t, with(many, func(d *api.Doc) { d.Nodes[at].Style.Grow = 1000 }), true)
		checkMay(t, with(many, func(d *api.Doc) { d.Nodes[at].Style.Grow = 1001 }), false)
	}
}

// P7.1: no text's parent is a flexible box; farther above it one may be.
func TestMayTextsInFlexibleBoxes(t *testing.T) {
	for words, may := range map[string]bool{
		"0f 1t":                 false,
		"0i 1t":                 true,
		"0f 1b 2t":              true,
		"0f 1i 2t":              true,
		"0f 1b 1t":              false,
		"0f 1b 2t 1t":           false,
		"0f 1t 1b":              false,
		"0f 1b 2f 1t":           false,
		"0b 1f 1t":              true,
		"0b 1t 1f":              true,
		"0b 1f 2t":              false,
		"0b 1f 2b 3t":           true,
		"0b 1f 2b 3t 2t":        false,
		"0b 1f 2b 3t 2b":        true,
		"0b 1f 2b 3b 4t 3t 2b":  true,
		"0b 1f 2b 2b 2b 1t":     true,
		"0b 1f 2b 2b 2t 1t":     false,
		"0b 1b 2f 3b 1b 2t":     true,
		"0b 1b 2f 3b 2t 1b":     true,
		"0f 1f 2f 3b 4t":        true,
		"0f 1f 2f 3b 4t 3t":     false,
		"0f 1f 2f 3b 4t 2t":     false,
		"0f 1f 2f 3b 4t 1t":     false,
		"0f 1f 2f 3b 4t 1b 2t":  true,
		"0b 1f 1f 1f 1t 1t":     true,
		"0b 1f 2f 2b 3t 3t 1t":  true,
		"0b 1f 2f 2b 3t 3f 4t":  false,
		"0b 1i 2f 2t 1b 2t":     true,
		"0b 1b 2f 3f 3i 4t 4b ": true,
	} {
		checkMay(t, doc(words), may)
	}
}

// P7.1: a flexible box with just MaxFlex - 1 others above it, with MaxFlex,
// with one more; boxes between them count for nothing, nor do such as stand
// beside.
func TestMayFlexibleBoxesWithin(t *testing.T) {
	for many := range api.MaxDeep + 1 {
		checkMay(t, chain(strings.Repeat("f", many)), many > 0 && many <= 6)
	}
	for kinds, may := range map[string]bool{
		"ffffff":            true,
		"fffffff":           false,
		"ffffffff":          false,
		"bffffff":           true,
		"bfffffff":          false,
		"ffffffb":           true,
		"ffffffbf":          false,
		"ffffffbb":          true,
		"ffffffbbbbbbbbbb":  true,
		"ffffffbbbbbbbbbf":  false,
		"fbfbfbfbfbfb":      true,
		"fbfbfbfbfbfbf":     false,
		"bfbfbfbfbfbfbb":    true,
		"bibibifififififi":  true,
		"bbbbbbbbbbffffff":  true,
		"bbbbbbbbbfffffff":  false,
		"fffffbbbbbbbbbbf":  true,
		"fffffbbbbbbbbbff":  false,
		"ffffffiiiiiiiiii":  true,
		"iiiiiiiiiiiiiiii":  true,
		"bbbbbbbbbbbbbbbb":  true,
		"fbbbbbbbbbbbbbbbb": false,
	} {
		checkMay(t, chain(kinds), may)
	}
	for words, may := range map[string]bool{
		"0f 1f 2f 3f 4f 5f 5f 5f 5f":                      true,
		"0f 1f 2f 3f 4f 5f 5f 6f 5f":                      false,
		"0f 1f 2f 3f 4f 5f 1f 2f 3f 4f 5f":                true,
		"0f 1f 2f 3f 4f 5f 1f 2f 3f 4f 5f 6f":             false,
		"0f 1f 2f 3f 4f 5f 1b 2f 3f 4f 5f 6f":             true,
		"0f 1f 2f 3f 4f 5f 1b 2f 3f 4f 5f 6f 7b 8t":       true,
		"0f 1f 2f 3f 4f 5f 1b 2f 3f 4f 5f 6f 7f":          false,
		"0b 1f 1f 1f 1f 1f 1f 1f 1f":                      true,
		"0b 1f 2f 3f 4f 5f 6f 2b 3f 4f 5f 6f 7f":          true,
		"0b 1f 2f 3f 4f 5f 6f 2b 3f 4f 5f 6f 7f 8f":       false,
		"0b 1f 2f 3f 4f 5f 6f 2b 3f 4f 5f 6f 7f 1b 2f 3f": true,
		"0b 1b 2b 3b 4b 5b 6b 1f 2f 3f 4f 5f 6f":          true,
		"0b 1b 2b 3b 4b 5b 6b 1f 2f 3f 4f 5f 6f 7f":       false,
		"0b 1f 2f 3f 4f 5f 6f 7b 8b 8f":                   false,
		"0b 1f 2f 3f 4f 5f 6f 7b 8b 8b 7b":                true,
	} {
		checkMay(t, doc(words), may)
	}
	// Nothing but DFlex makes a box flexible.
	s := api.Style{Dir: api.Column, Wrap: true, Gap: 5, Grow: 1, Justify: api.Evenly, Align: api.Stretch}
	checkMay(t, with(chain("bbbbbbbbbb"), func(d *api.Doc) {
		for at := range d.Nodes {
			d.Nodes[at].Style = s
		}
		d.Nodes = append(d.Nodes, api.Node{Key: 11, Depth: 10, Kind: api.NkText, Text: "x"})
		d.Next = 12
	}), true)
}

// P7.1: all documents of up to five nodes that are boxes, flexible boxes and
// texts, of depths from 0 to 3; and all chains of up to nine boxes.
func TestMayAllSmall(t *testing.T) {
	kinds := []byte{'b', 'f', 't'}
	var all func(d api.Doc)
	all = func(d api.Doc) {
		checkMay(t, d, mayByHand(d))
		if len(d.Nodes) == 5 {
			return
		}
		for depth := range 4 {
			for _, kind := range kinds {
				all(with(d, func(d *api.Doc) {
					d.Nodes = append(d.Nodes, node(d.Next, depth, kind))
					d.Next++
				}))
			}
		}
	}
	all(api.Doc{Next: 1})
	for many := range 10 {
		for bits := range 1 << many {
			kinds := make([]byte, many)
			for i := range kinds {
				kinds[i] = "bf"[bits>>i&1]
			}
			d := chain(string(kinds))
			checkMay(t, d, mayByHand(d))
		}
	}
}

// P7.1: documents by a fixed seed, and such as something of is otherwise.
func TestMayByHand(t *testing.T) {
	r := rand.New(rand.NewSource(1))
	may, not := 0, 0
	for range 4000 {
		d := some(r, 1+r.Intn(25))
		checkMay(t, d, true)
		for range r.Intn(4) {
			n := &d.Nodes[r.Intn(len(d.Nodes))]
			switch r.Intn(4) {
			case 0:
				n.Depth += r.Intn(3) - 1
			case 1:
				n.Style.Display = uint8(r.Intn(4))
			case 2:
				n.Kind, n.Style, n.Text = api.NkText, api.Style{}, someText(r)
			case 3:
				n.Kind, n.Style, n.Text = api.NkBox, someStyle(r), ""
			}
		}
		checkMay(t, d, mayByHand(d))
		if mayByHand(d) {
			may++
		} else {
			not++
		}
	}
	if may < 1000 || not < 1000 {
		t.Errorf("%d may, %d not", may, not)
	}
}
