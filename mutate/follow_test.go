package mutate_test

import (
	"maps"
	"math/rand"
	"slices"
	"testing"

	"windowpane/api"
	"windowpane/mutate"
	"windowpane/tree"
)

// goOver goes over changes that were done, by a fixed seed, each of the
// document that came of those ahead of it; and holds all answers against the
// chapter's words on the way.
func goOver(t *testing.T, seed int64, do func(d api.Doc, c api.Change, came api.Doc)) {
	t.Helper()
	r := rand.New(rand.NewSource(seed))
	done := map[uint8]int{}
	refused := map[api.Errno]int{}
	for range 60 {
		d := some(r, 1+r.Intn(30))
		for range 150 {
			c := someChange(r, d)
			if e := checkByHand(t, d, c); e != api.OK {
				refused[e]++
				continue
			}
			done[c.Kind]++
			came := mustApply(t, d, c)
			do(d, c, came)
			d = came
		}
	}
	for kind := api.ChInsert; kind <= api.ChText; kind++ {
		if done[kind] < 100 {
			t.Errorf("kind %d: done %d times", kind, done[kind])
		}
	}
	for _, e := range []api.Errno{api.ErrChange, api.ErrStyle, api.ErrFull} {
		if refused[e] < 50 {
			t.Errorf("error %d: %d times", e, refused[e])
		}
	}
}

// P7.2, P7.3: what comes may be; its Next is what it was, or (of an insertion)
// one more.
func TestWhatComesMayBe(t *testing.T) {
	goOver(t, 1, func(d api.Doc, c api.Change, came api.Doc) {
		if !mutate.May(came) || !mayByHand(came) {
			t.Fatalf("%s, %s: %s", words(d), told(c), words(came))
		}
		next := d.Next
		if c.Kind == api.ChInsert {
			next++
		}
		if came.Next != next {
			t.Fatalf("%s, %s: next %d, not %d", words(d), told(c), came.Next, next)
		}
	})
}

// touched are the keys of the nodes that a change names as what is changed,
// and of those in a tree that goes.
func touched(d api.Doc, c api.Change) []int {
	var l []int
	switch c.Kind {
	case api.ChInsert:
		l = append(l, d.Next)
	case api.ChRemove:
		at := tree.Find(d, c.Key)
		for _, n := range d.Nodes[at:tree.End(d, at)] {
			l = append(l, n.Key)
		}
	default:
		l = append(l, c.Key)
	}
	return l
}

// others are the nodes of a document but those of these keys, in order, all of
// the depth 0.
func others(d api.Doc, but []int) []api.Node {
	var l []api.Node
	for _, n := range d.Nodes {
		if !slices.Contains(but, n.Key) {
			n.Depth = 0
			l = append(l, n)
		}
	}
	return l
}

// parents are the parents' keys of the nodes of a document but those of these
// keys; the root's is 0.
func parents(d api.Doc, but []int) map[int]int {
	over := map[int]int{}
	for at, n := range d.Nodes {
		if !slices.Contains(but, n.Key) {
			over[n.Key] = 0
			if parent := tree.Parent(d, at); parent >= 0 {
				over[n.Key] = d.Nodes[parent].Key
			}
		}
	}
	return over
}

// P7.4: nodes that the change doesn't name, and that are in no tree that goes,
// are there as they were, below the parents that they had, in the order that
// they had (of a move: those in the tree that is moved, and those that aren't).
func TestAllOthersStay(t *testing.T) {
	goOver(t, 2, func(d api.Doc, c api.Change, came api.Doc) {
		but := touched(d, c)
		if !maps.Equal(parents(d, but), parents(came, but)) {
			t.Fatalf("%s, %s: parents in %s", words(d), told(c), words(came))
		}
		if c.Kind != api.ChMove {
			if !slices.Equal(others(d, but), others(came, but)) {
				t.Fatalf("%s, %s: %s", words(d), told(c), words(came))
			}
			return
		}
		var within, outside []int
		at := tree.Find(d, c.Key)
		for place, n := range d.Nodes {
			if place >= at && place < tree.End(d, at) {
				within = append(within, n.Key)
			} else {
				outside = append(outside, n.Key)
			}
		}
		for _, but := range [][]int{within, outside} {
			if !slices.Equal(others(d, but), others(came, but)) {
				t.Fatalf("%s, %s: %s", words(d), told(c), words(came))
			}
		}
	})
}

// P7.4: the depths of all that the change doesn't name stay too, but of what
// is in a tree that is moved.
func TestDepthsStay(t *testing.T) {
	goOver(t, 3, func(d api.Doc, c api.Change, came api.Doc) {
		but := touched(d, c)
		for at, n := range came.Nodes {
			was := tree.Find(d, n.Key)
			if slices.Contains(but, n.Key) && c.Kind != api.ChStyle && c.Kind != api.ChText || inMoved(d, c, was) {
				continue
			}
			if n.Depth != d.Nodes[was].Depth {
				t.Fatalf("%s, %s: the depth at %d in %s", words(d), told(c), at, words(came))
			}
		}
	})
}

func inMoved(d api.Doc, c api.Change, at int) bool {
	root := tree.Find(d, c.Key)
	return c.Kind == api.ChMove && at >= root && at < tree.End(d, root)
}

// numberOf tells which of its parent's kids a node is, and the parent's key.
func numberOf(d api.Doc, key int) (parent, number int) {
	at := tree.Find(d, key)
	over := tree.Parent(d, at)
	return d.Nodes[over].Key, slices.Index(tree.Kids(d, over), at)
}

// P7.5: what was inserted and is removed leads back, but for Next; what was
// moved, and is moved back, leads back; so does a style, a text that is set
// back.
func TestThereAndBack(t *testing.T) {
	goOver(t, 4, func(d api.Doc, c api.Change, came api.Doc) {
		want := d
		var back api.Change
		switch at := tree.Find(d, c.Key); c.Kind {
		case api.ChInsert:
			want.Next++
			back = remove(d.Next)
		case api.ChMove:
			parent, number := numberOf(d, c.Key)
			back = move(c.Key, parent, number)
		case api.ChStyle:
			back = setStyle(c.Key, d.Nodes[at].Style)
		case api.ChText:
			back = setText(c.Key, d.Nodes[at].Text)
		default:
			return
		}
		checkApply(t, came, back, want, api.OK)
	})
}

// P7.2: what is inserted, or moved, is the kid of that number.
func TestNumberOfWhatComes(t *testing.T) {
	goOver(t, 5, func(d api.Doc, c api.Change, came api.Doc) {
		key := c.Key
		switch c.Kind {
		case api.ChInsert:
			key = d.Next
		case api.ChMove:
		default:
			return
		}
		if parent, number := numberOf(came, key); parent != c.Parent || number != c.At {
			t.Fatalf("%s, %s: %s", words(d), told(c), words(came))
		}
	})
}

// P7.2: a document near its limits, by a fixed seed.
func TestNearTheLimits(t *testing.T) {
	r := rand.New(rand.NewSource(6))
	d := some(r, api.MaxNodes-3)
	refused := 0
	for range 300 {
		c := someChange(r, d)
		if r.Intn(3) > 0 {
			c.Kind, c.Node.Kind = api.ChInsert, uint8(r.Intn(2))
		}
		if c.Kind == api.ChRemove {
			c.Kind = api.ChMove
		}
		switch checkByHand(t, d, c) {
		case api.OK:
			d = mustApply(t, d, c)
		case api.ErrFull:
			refused++
		}
	}
	if len(d.Nodes) != api.MaxNodes || refused < 50 {
		t.Errorf("%d nodes, %d times refused", len(d.Nodes), refused)
	}
}
