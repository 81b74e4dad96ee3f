package frag_test

import (
	"bytes"
	"encoding/binary"
	"fmt"
	"math"
	"slices"
	"strings"
	"testing"

	"windowpane/api"
	"windowpane/frag"
)

const (
	maxFrags  = 2048
	maxText   = 256
	maxCoord  = 1 << 40
	maxUpdate = 1 << 18
	mostTold  = 400 // bytes of a thing in what a test says
)

// brief tells how something begins that may be very long.
func brief(long any) string {
	text := strings.ToValidUTF8(fmt.Sprintf("%+v", long), "?")
	if len(text) <= mostTold {
		return text
	}
	return text[:mostTold] + ".."
}

// handMay asks the words of a fragment that may be, one by one.
func handMay(f api.Frag) bool {
	for _, x := range []struct{ n, least, most int }{
		{f.Node, 0, maxCoord}, {f.Part, 0, maxCoord}, {f.Depth, 0, maxFrags},
		{f.X, -maxCoord, maxCoord}, {f.Y, -maxCoord, maxCoord}, {f.W, -maxCoord, maxCoord}, {f.H, -maxCoord, maxCoord},
		{len(f.Text), 0, maxText},
	} {
		if x.n < x.least || x.most < x.n {
			return false
		}
	}
	return true
}

// handTwins tells whether two fragments have one key, by sorting all keys.
func handTwins(l []api.Frag) bool {
	keys := make([][2]int, len(l))
	for i, f := range l {
		keys[i] = [2]int{f.Node, f.Part}
	}
	slices.SortFunc(keys, func(a, b [2]int) int { return slices.Compare(a[:], b[:]) })
	return len(slices.Compact(keys)) < len(l)
}

// handTree asks the words of a tree, one by one.
func handTree(l []api.Frag) bool {
	if len(l) < 1 || len(l) > maxFrags || slices.ContainsFunc(l, func(f api.Frag) bool { return !handMay(f) }) {
		return false
	}
	for i, f := range l {
		root, below := i == 0 && f.Depth == 0, i > 0 && f.Depth > 0 && f.Depth-1 <= l[max(i-1, 0)].Depth
		if !root && !below {
			return false
		}
	}
	return !handTwins(l)
}

func handCheck(l []api.Frag) api.Errno {
	switch {
	case len(l) > maxFrags:
		return api.ErrFull
	case !handTree(l):
		return api.ErrTree
	}
	return api.OK
}

// parentOf notes each fragment of a tree that is one less deep, from the first
// one on.
func parentOf(l []api.Frag, i int) int {
	parent := -1
	for at, f := range l[:i] {
		if f.Depth+1 == l[i].Depth {
			parent = at
		}
	}
	return parent
}

// endOf counts the fragments right behind one of a tree that are deeper.
func endOf(l []api.Frag, i int) int {
	below := 0
	for i+1+below < len(l) && l[i+1+below].Depth > l[i].Depth {
		below++
	}
	return i + 1 + below
}

// form tells the form of fragments, a piece for each of its words and texts, by
// the library's words; whether they are a tree or not.
func form(l []api.Frag) [][]byte {
	pieces := [][]byte{binary.AppendUvarint(nil, uint64(len(l)))}
	for _, f := range l {
		for _, n := range []int{f.Node, f.Part, f.Depth} {
			pieces = append(pieces, binary.AppendUvarint(nil, uint64(n)))
		}
		for _, n := range []int{f.X, f.Y, f.W, f.H} {
			pieces = append(pieces, binary.AppendVarint(nil, int64(n)))
		}
		pieces = append(pieces, binary.AppendUvarint(nil, uint64(len(f.Text))), []byte(f.Text))
	}
	return pieces
}

func handForm(l []api.Frag) []byte { return slices.Concat(form(l)...) }

// reader takes fragments by the library's words: each of them is put again.
type reader struct {
	rest []byte
	ok   bool
}

func (r *reader) word() uint64 {
	n, used := binary.Uvarint(r.rest)
	if used <= 0 || !bytes.HasPrefix(r.rest, binary.AppendUvarint(nil, n)) {
		r.ok = false
		return 0
	}
	r.rest = r.rest[used:]
	return n
}

// natural tells a natural number; of those that no int holds the greatest one
// that does.
func (r *reader) natural() int { return int(min(r.word(), math.MaxInt)) }

func (r *reader) integer() int {
	n := r.word()
	if n&1 == 1 {
		return ^int(n >> 1)
	}
	return int(n >> 1)
}

func (r *reader) text() string {
	n := r.natural()
	if r.ok = r.ok && n <= len(r.rest); !r.ok {
		return ""
	}
	text := string(r.rest[:n])
	r.rest = r.rest[n:]
	return text
}

func handParse(b []byte) ([]api.Frag, api.Errno) {
	r := reader{b, true}
	var l []api.Frag
	for many := r.natural(); r.ok && many > 0; many-- {
		l = append(l, api.Frag{
			Node: r.natural(), Part: r.natural(), Depth: r.natural(),
			X: r.integer(), Y: r.integer(), W: r.integer(), H: r.integer(), Text: r.text(),
		})
	}
	if len(b) > maxUpdate || !r.ok || len(r.rest) > 0 || !handTree(l) {
		return nil, api.ErrTree
	}
	return l, api.OK
}

// piece tells fragments as a piece of a longer row, and what asks whether that
// has stayed as it was.
func piece(l []api.Frag) (in []api.Frag, stays func() bool) {
	other := api.Frag{Node: 9, Part: 8, Depth: 7, X: -6, Y: 5, W: 4, H: 3, Text: "behind"}
	all := slices.Concat(l, []api.Frag{other, other})
	before := slices.Clone(all)
	return all[:len(l)], func() bool { return alike(all, before) }
}

// alike holds fragments against each other, field by field.
func alike(a, b []api.Frag) bool {
	if len(a) != len(b) {
		return false
	}
	for i, f := range a {
		g := b[i]
		if f.Node != g.Node || f.Part != g.Part || f.Depth != g.Depth || f.X != g.X || f.Y != g.Y || f.W != g.W || f.H != g.H || strings.Compare(f.Text, g.Text) != 0 {
			return false
		}
	}
	return true
}

// checkCheck holds May of each fragment and Check of all against the chapter's
// words by hand, and tells what Check tells.
func checkCheck(t *testing.T, l []api.Frag) api.Errno {
	t.Helper()
	in, stays := piece(l)
	for _, f := range l {
		if got := frag.May(f); got != handMay(f) {
			t.Fatalf("May of %s: %v", brief(f), got)
		}
	}
	got := frag.Check(in)
	if want := handCheck(l); got != want {
		t.Fatalf("Check of %s: %d, not %d", brief(l), got, want)
	}
	if !stays() {
		t.Fatalf("Check of %s: they were changed", brief(l))
	}
	return got
}

// checkPlace holds Parent and End of that number, there or not, against the
// chapter's words by hand; may says whether the fragments are a tree.
func checkPlace(t *testing.T, l []api.Frag, i int, may bool) {
	t.Helper()
	in, stays := piece(l)
	parent, end := -1, 0
	if may && i >= 0 && i < len(l) {
		parent, end = parentOf(l, i), endOf(l, i)
	}
	if got := frag.Parent(in, i); got != parent {
		t.Fatalf("Parent of %d in %s: %d, not %d", i, brief(l), got, parent)
	}
	if got := frag.End(in, i); got != end {
		t.Fatalf("End of %d in %s: %d, not %d", i, brief(l), got, end)
	}
	if !stays() {
		t.Fatalf("Parent, End of %d in %s: they were changed", i, brief(l))
	}
}

// notThere are numbers that no fragment of many has.
func notThere(many int) []int {
	return []int{math.MinInt, math.MinInt + 1, -many, -2, -1, many, many + 1, 1 << 32, -1 << 32, math.MaxInt - 1, math.MaxInt}
}

// someOf tells the numbers of all fragments, of very many of some, the first and
// the last one among them.
func someOf(l []api.Frag) []int {
	var all []int
	step := max(1, len(l)/40)
	for i := 0; i < len(l); i += step {
		all = append(all, i)
	}
	if step > 1 {
		all = append(all, len(l)-1)
	}
	return all
}

// checkPlaces holds Parent and End of numbers that fragments have, and of some
// that none has.
func checkPlaces(t *testing.T, l []api.Frag) {
	t.Helper()
	may := handTree(l)
	for _, i := range someOf(l) {
		checkPlace(t, l, i, may)
	}
	for _, i := range notThere(len(l)) {
		checkPlace(t, l, i, may)
	}
}

// checkFind holds Find against the chapter's words by hand: of all numbers with
// that key the least.
func checkFind(t *testing.T, l []api.Frag, node, part int) int {
	t.Helper()
	in, stays := piece(l)
	want := -1
	for i := len(l) - 1; i >= 0; i-- {
		if l[i].Node == node && l[i].Part == part {
			want = i
		}
	}
	got := frag.Find(in, node, part)
	if got != want {
		t.Fatalf("Find of %d, %d in %s: %d, not %d", node, part, brief(l), got, want)
	}
	if !stays() {
		t.Fatalf("Find of %d, %d in %s: they were changed", node, part, brief(l))
	}
	return got
}

// checkSame holds Same of two rows, either way, against what it is to tell.
func checkSame(t *testing.T, a, b []api.Frag, want bool) {
	t.Helper()
	inA, staysA := piece(a)
	inB, staysB := piece(b)
	if frag.Same(inA, inB) != want || frag.Same(inB, inA) != want {
		t.Fatalf("Same of %s and %s: not %v", brief(a), brief(b), want)
	}
	if !staysA() || !staysB() {
		t.Fatalf("Same of %s and %s: they were changed", brief(a), brief(b))
	}
}

// checkPrint holds Print against the chapter's words by hand, and tells what it
// tells.
func checkPrint(t *testing.T, l []api.Frag) ([]byte, api.Errno) {
	t.Helper()
	in, stays := piece(l)
	want, wantE := handForm(l), handCheck(l)
	if wantE == api.OK && len(want) > maxUpdate {
		wantE = api.ErrLong
	}
	got, e := frag.Print(in)
	if e != wantE || e == api.OK && !bytes.Equal(got, want) || e != api.OK && got != nil {
		t.Fatalf("Print of %s: %s (%d), not %s (%d)", brief(l), brief(got), e, brief(want), wantE)
	}
	if !stays() {
		t.Fatalf("Print of %s: they were changed", brief(l))
	}
	return got, e
}

// checkParse holds Parse against the chapter's words by hand, and tells what it
// tells.
func checkParse(t *testing.T, b []byte) ([]api.Frag, api.Errno) {
	t.Helper()
	all := slices.Concat(b, []byte{1, 2, 3})
	before := slices.Clone(all)
	got, e := frag.Parse(all[:len(b)])
	want, wantE := handParse(b)
	if e != wantE || !alike(got, want) || e != api.OK && got != nil {
		t.Fatalf("Parse of %s: %s (%d), not %s (%d)", brief(b), brief(got), e, brief(want), wantE)
	}
	if !bytes.Equal(all, before) {
		t.Fatalf("Parse of %s: they were changed", brief(b))
	}
	return got, e
}

// checkAll holds all calls of a row against the chapter's words by hand, and
// tells whether it is a tree.
func checkAll(t *testing.T, l []api.Frag) bool {
	t.Helper()
	e := checkCheck(t, l)
	checkPlaces(t, l)
	for _, i := range someOf(l) {
		checkFind(t, l, l[i].Node, l[i].Part)
		checkFind(t, l, l[i].Part, l[i].Node)
	}
	checkSame(t, l, slices.Clone(l), true)
	checkPrint(t, l)
	checkParse(t, handForm(l))
	return e == api.OK
}
