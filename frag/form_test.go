package frag_test

import (
	"bytes"
	"encoding/binary"
	"math"
	"math/rand"
	"slices"
	"strings"
	"testing"

	"windowpane/api"
	"windowpane/frag"
)

// P20.4: the row of the chapter's examples, and other forms by hand.
func TestForms(t *testing.T) {
	for _, x := range []struct {
		l    []api.Frag
		form []byte
	}{
		{[]api.Frag{{Node: 1, W: 2, Text: "a"}}, []byte{1, 1, 0, 0, 0, 0, 4, 0, 1, 97}},
		{[]api.Frag{{}}, []byte{1, 0, 0, 0, 0, 0, 0, 0, 0}},
		{[]api.Frag{{Node: 3, Part: 5, X: -1, Y: 1, W: -2, H: 2}}, []byte{1, 3, 5, 0, 1, 2, 3, 4, 0}},
		{[]api.Frag{{Node: 300, X: -64}, {Node: 300, Part: 128, Depth: 1, Y: 64, Text: "\x00\xff"}}, []byte{2, 172, 2, 0, 0, 127, 0, 0, 0, 0, 172, 2, 128, 1, 1, 0, 128, 1, 0, 0, 2, 0, 255}},
		{[]api.Frag{{Node: maxCoord, H: maxCoord}}, []byte{1, 128, 128, 128, 128, 128, 32, 0, 0, 0, 0, 0, 128, 128, 128, 128, 128, 64, 0}},
		{[]api.Frag{{Part: maxCoord, X: -maxCoord}}, []byte{1, 0, 128, 128, 128, 128, 128, 32, 0, 255, 255, 255, 255, 255, 63, 0, 0, 0, 0}},
	} {
		if got, e := checkPrint(t, x.l); !bytes.Equal(got, x.form) || e != api.OK {
			t.Errorf("Print of %+v: %v (%d), not %v", x.l, got, e, x.form)
		}
		if got, e := checkParse(t, x.form); !alike(got, x.l) || e != api.OK {
			t.Errorf("Parse of %v: %+v (%d), not %+v", x.form, got, e, x.l)
		}
	}
}

// P20.4: each number of a fragment just at its least and most, one beyond, and
// whatever a word holds.
func TestNumbersInForms(t *testing.T) {
	for field := range 7 {
		for _, n := range wild {
			for i := range 3 {
				l := with(deep(0, 1, 1), i, func(f *api.Frag) { *numbersOf(f)[field] = n })
				checkPrint(t, l)
				checkParse(t, handForm(l))
			}
		}
	}
	for _, n := range []uint64{1<<40 + 1, 1<<41 - 1, 1 << 41, 1<<41 + 1, 1<<41 + 2, 1<<63 - 1, 1 << 63, 1<<63 + 1, 1<<64 - 2, 1<<64 - 1} {
		for field := range 7 {
			pieces := form(deep(0, 1))
			pieces[1+9+field] = binary.AppendUvarint(nil, n)
			_, e := checkParse(t, slices.Concat(pieces...))
			// An integer's word is twice as great.
			if may := field > 2 && n <= 1<<41; (e == api.OK) != may {
				t.Errorf("a word of %d at %d: %d", n, field, e)
			}
		}
	}
}

// P20.4: texts of 0, 1, 255, 256 and 257 bytes, and more, of any bytes.
func TestTextsInForms(t *testing.T) {
	for c := range 256 {
		for _, many := range []int{0, 1, 127, 128, 255, 256, 257, 1000} {
			l := with(deep(0, 1), 1, func(f *api.Frag) { f.Text = strings.Repeat(string([]byte{byte(c)}), many) })
			_, printE := checkPrint(t, l)
			_, parseE := checkParse(t, handForm(l))
			if (printE == api.OK) != (many <= 256) || printE != parseE {
				t.Errorf("%d bytes %d: %d, %d", many, c, printE, parseE)
			}
		}
	}
	checkParse(t, handForm(with(deep(0), 0, func(f *api.Frag) { f.Text = strings.Repeat("a", maxUpdate-13) })))
}

// longTree tells a tree of so many fragments whose form has just so many bytes.
func longTree(t *testing.T, many, size int) []api.Frag {
	t.Helper()
	l := deep(flat(many)...)
	short := size - len(handForm(l))
	for i := range l {
		n := min(short, maxText)
		if n < 128 {
			l[i].Text, short = strings.Repeat("a", n), short-n
			continue
		}
		// The length of so long a text needs a byte more.
		n = min(short-1, maxText)
		l[i].Text, short = strings.Repeat("b", n), short-n
		if n > 127 {
			short--
		}
	}
	if got := len(handForm(l)); got != size {
		t.Fatalf("%d bytes, not %d", got, size)
	}
	return l
}

// P20.4: forms of just as many bytes as there may be, and of more, by a byte, by
// a fragment, by many; bytes likewise.
func TestLongForms(t *testing.T) {
	for _, many := range []int{1000, 1500, maxFrags} {
		for _, size := range []int{maxUpdate - 129, maxUpdate - 1, maxUpdate, maxUpdate + 1, maxUpdate + 2, maxUpdate + 5} {
			l := longTree(t, many, size)
			want, wantE := api.OK, api.OK
			if size > maxUpdate {
				want, wantE = api.ErrLong, api.ErrTree
			}
			if e := checkCheck(t, l); e != api.OK {
				t.Errorf("Check: %d", e)
			}
			checkPlace(t, l, many-1, true)
			if _, e := checkPrint(t, l); e != want {
				t.Errorf("Print, %d bytes: %d", size, e)
			}
			if _, e := checkParse(t, handForm(l)); e != wantE {
				t.Errorf("Parse, %d bytes: %d", size, e)
			}
			if _, e := checkParse(t, append(handForm(l), 0)); e != api.ErrTree {
				t.Errorf("Parse, %d bytes and 0: %d", size, e)
			}
			// A fragment less, or more, or a text's last byte elsewhere.
			checkPrint(t, l[:many-1])
			checkPrint(t, append(slices.Clone(l), api.Frag{Node: many + 1, Depth: 1}))
			checkPrint(t, with(with(l, 0, func(f *api.Frag) { f.Text = f.Text[1:] }), many-1, func(f *api.Frag) { f.Text += "c" }))
		}
	}
	longest := deep(flat(maxFrags)...)
	for i := range longest {
		f := &longest[i]
		f.Node, f.X, f.Y, f.W, f.H, f.Text = maxCoord-i, -maxCoord, -maxCoord, -maxCoord, -maxCoord, strings.Repeat("\xff", maxText)
	}
	if _, e := checkPrint(t, longest); e != api.ErrLong {
		t.Errorf("Print of the longest: %d", e)
	}
	for _, many := range []int{maxUpdate - 1, maxUpdate, maxUpdate + 1, 2 * maxUpdate, 1 << 22} {
		for _, b := range []byte{0, 1, 8, 127, 128, 255} {
			checkParse(t, bytes.Repeat([]byte{b}, many))
		}
		checkParse(t, append(handForm(deep(0)), make([]byte, many)...))
	}
}

// P20.4, Print: each error ahead of those behind it.
func TestPrintErrorsInOrder(t *testing.T) {
	long := strings.Repeat("a", maxText)
	rows := func(many int) []api.Frag {
		l := deep(flat(many)...)
		for i := range l {
			l[i].Text = long
		}
		return l
	}
	for _, x := range []struct {
		l    []api.Frag
		want api.Errno
	}{
		{rows(maxFrags), api.ErrLong},
		{rows(maxFrags + 1), api.ErrFull},
		{rows(maxFrags + 1)[1:], api.ErrTree},
		{rows(maxFrags + 2)[1:], api.ErrFull},
		{with(rows(maxFrags), maxFrags-1, func(f *api.Frag) { f.Depth = 3 }), api.ErrTree},
		{with(rows(maxFrags), maxFrags-1, func(f *api.Frag) { f.Node = 1 }), api.ErrTree},
		{with(rows(maxFrags), maxFrags-1, func(f *api.Frag) { f.Text += "a" }), api.ErrTree},
		{with(rows(maxFrags+1), maxFrags, func(f *api.Frag) { f.Text += "a" }), api.ErrFull},
		{with(rows(maxFrags+1), 0, func(f *api.Frag) { f.X = math.MinInt }), api.ErrFull},
		{with(deep(0), 0, func(f *api.Frag) { f.Text = strings.Repeat("a", maxUpdate) }), api.ErrTree},
		{nil, api.ErrTree},
		{[]api.Frag{}, api.ErrTree},
		{make([]api.Frag, maxFrags+1), api.ErrFull},
	} {
		if got, e := checkPrint(t, x.l); got != nil || e != x.want {
			t.Errorf("Print of %s: %d bytes (%d), not %d", brief(x.l), len(got), e, x.want)
		}
	}
}

// someForms are forms of trees, short enough that much can be tried with them.
func someForms() [][]byte {
	r := rand.New(rand.NewSource(3))
	forms := [][]byte{
		handForm(deep(0)), handForm(deep(0, 1, 2, 1)), handForm([]api.Frag{{Node: 1, W: 2, Text: "a"}}),
		handForm([]api.Frag{{Node: 300, X: -64}, {Node: 300, Part: 128, Depth: 1, Y: 64, H: -maxCoord, Text: "\x00\xff\x80"}}),
		handForm([]api.Frag{{Part: maxCoord, Text: strings.Repeat("é", 64)}}),
	}
	for range 8 {
		l := someTree(r, 1+r.Intn(4))
		for i := range l {
			l[i].Text = l[i].Text[:min(len(l[i].Text), 3)]
		}
		forms = append(forms, handForm(l))
	}
	return forms
}

// P20.4, Parse: forms without their last bytes, or their first ones, or one
// between; with a byte more, at each place; two behind one another.
func TestTornForms(t *testing.T) {
	for _, whole := range someForms() {
		if _, e := checkParse(t, whole); e != api.OK {
			t.Fatalf("Parse of %v: %d", whole, e)
		}
		for i := range whole {
			if _, e := checkParse(t, whole[:i]); e != api.ErrTree {
				t.Errorf("Parse of %v: %d", whole[:i], e)
			}
			checkParse(t, whole[i+1:])
			checkParse(t, slices.Delete(slices.Clone(whole), i, i+1))
		}
		for i := range len(whole) + 1 {
			for _, b := range []byte{0, 1, 2, 127, 128, 255} {
				checkParse(t, slices.Insert(slices.Clone(whole), i, b))
			}
		}
		for b := range 256 {
			if _, e := checkParse(t, append(slices.Clip(whole), byte(b))); e != api.ErrTree {
				t.Errorf("Parse of %v and %d: %d", whole, b, e)
			}
		}
		for _, other := range someForms() {
			if _, e := checkParse(t, slices.Concat(whole, other)); e != api.ErrTree {
				t.Errorf("Parse of %v and %v: %d", whole, other, e)
			}
		}
	}
}

// P20.4, Parse: forms of which a byte is another one, each by each.
func TestSpoiltForms(t *testing.T) {
	parsed, refused := 0, 0
	for _, whole := range someForms() {
		for i := range whole {
			for b := range 256 {
				spoilt := slices.Clone(whole)
				spoilt[i] = byte(b)
				if _, e := checkParse(t, spoilt); e == api.OK {
					parsed++
				} else {
					refused++
				}
			}
		}
	}
	if parsed < 10000 || refused < 10000 {
		t.Errorf("only %d parsed, %d refused", parsed, refused)
	}
}

// P20.4, Parse: words in another form than the shortest, each one; words that
// are too long, or tell more than a number holds.
func TestOtherWords(t *testing.T) {
	for _, l := range [][]api.Frag{deep(0), deep(0, 1, 2), {{Node: 300, X: -64, Text: "ab"}, {Part: 128, Depth: 1, Y: 64, H: -maxCoord, Text: strings.Repeat("a", 200)}}} {
		pieces := form(l)
		for i, piece := range pieces {
			if i > 0 && i%9 == 0 {
				continue // a text
			}
			last := len(piece) - 1
			for _, tail := range [][]byte{{0}, {128, 0}, {128, 128, 128, 128, 128, 128, 128, 128, 128, 0}, {128}, {255, 255, 255, 255, 255, 255, 255, 255, 255, 255, 1}} {
				other := slices.Clone(pieces)
				other[i] = slices.Concat(piece[:last], []byte{piece[last] | 128}, tail)
				checkParse(t, slices.Concat(other...))
				if tail[len(tail)-1] == 0 {
					if _, e := frag.Parse(slices.Concat(other...)); e != api.ErrTree {
						t.Errorf("Parse of %v: %d", other, e)
					}
				}
			}
			other := slices.Clone(pieces)
			other[i] = []byte{255, 255, 255, 255, 255, 255, 255, 255, 255, 2}
			if _, e := checkParse(t, slices.Concat(other...)); e != api.ErrTree {
				t.Errorf("Parse of %v: %d", other, e)
			}
		}
	}
}

// P20.4, Parse: a count that is less or more than there are; of whatever a word
// holds, with fragments behind it and without.
func TestCounts(t *testing.T) {
	counts := []uint64{0, 1, 2, 3, 4, 5, 6, 7, 127, 128, 2047, 2048, 2049, 1 << 16, 1 << 32, 1<<32 + 1, 1<<32 + 4, 1<<63 - 1, 1 << 63, 1<<64 - 1}
	for _, many := range []int{0, 1, 2, 3, 4, 7, 128, maxFrags, maxFrags + 1} {
		pieces := form(deep(flat(many)...))
		for _, count := range append(counts, uint64(many)+1, uint64(many)-1, uint64(many)+256) {
			pieces[0] = binary.AppendUvarint(nil, count)
			_, e := checkParse(t, slices.Concat(pieces...))
			if may := count == uint64(many) && many > 0 && many <= maxFrags; (e == api.OK) != may {
				t.Errorf("Parse of %d, counted as %d: %d", many, count, e)
			}
		}
	}
}

// P20.4, Parse: forms of fragments that are no tree, the bytes of none, and all
// rows of up to two bytes; others by a fixed seed.
func TestStrangeBytes(t *testing.T) {
	for _, l := range [][]api.Frag{{}, deep(1), deep(0, 2), deep(0, 1, 0), deep(0, 0), make([]api.Frag, 2), deep(steep(maxFrags + 1)...), {{Depth: maxFrags}}} {
		if _, e := checkParse(t, handForm(l)); e != api.ErrTree {
			t.Errorf("Parse of the form of %s: %d", brief(l), e)
		}
	}
	checkParse(t, nil)
	for a := range 256 {
		checkParse(t, []byte{byte(a)})
		for b := range 256 {
			checkParse(t, []byte{byte(a), byte(b)})
		}
	}
	r := rand.New(rand.NewSource(4))
	for range 20000 {
		b := make([]byte, r.Intn(60))
		for i := range b {
			b[i] = oneOf(r, 0, 0, 0, 1, 1, 2, byte(r.Intn(20)), byte(r.Intn(256)))
		}
		checkParse(t, b)
	}
	parsed := 0
	for range 20000 {
		// Of so small numbers and short texts many are trees.
		b := []byte{byte(r.Intn(3))}
		for i := range int(b[0]) {
			b = append(b, byte(r.Intn(2)), byte(r.Intn(2)), byte(i), byte(r.Intn(256)), 0, 0, 0, byte(r.Intn(2)))
			b = append(b, make([]byte, r.Intn(2))...)
		}
		if _, e := checkParse(t, b); e == api.OK {
			parsed++
		}
	}
	if parsed < 1000 {
		t.Errorf("only %d parsed", parsed)
	}
}
