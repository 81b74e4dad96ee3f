package wire_test

import (
	"bytes"
	"encoding/binary"
	"fmt"
	"math"
	"math/rand"
	"slices"
	"strings"
	"testing"

	"windowpane/api"
	"windowpane/wire"
)

const (
	letters     = "nifbl"
	mostLetters = 64
	mostRow     = 4096
	mostTold    = 300 // bytes of a thing in what a test says
)

func ofN(n uint64) wire.Value    { return wire.Value{N: n} }
func ofI(i int) wire.Value       { return wire.Value{I: i} }
func ofF(f bool) wire.Value      { return wire.Value{F: f} }
func ofB(b ...byte) wire.Value   { return wire.Value{B: b} }
func ofL(l ...uint64) wire.Value { return wire.Value{L: l} }

// all tells as many bytes, each of which is this one.
func all(c byte, many int) []byte { return bytes.Repeat([]byte{c}, many) }

func join(pieces ...[]byte) []byte { return slices.Concat(pieces...) }

func word(n uint64) []byte { return binary.AppendUvarint(nil, n) }

// some is a value of a letter, by the seed; of its field zero, too.
func some(r *rand.Rand, letter byte) wire.Value {
	number := func() uint64 { return r.Uint64() >> r.Intn(64) >> r.Intn(2) }
	switch letter {
	case 'n':
		return ofN(number())
	case 'i':
		return ofI(int(number()))
	case 'f':
		return ofF(r.Intn(2) == 1)
	case 'b':
		data := make([]byte, r.Intn(4)*r.Intn(60))
		r.Read(data)
		return ofB(data...)
	}
	row := make([]uint64, r.Intn(4)*r.Intn(60))
	for i := range row {
		row[i] = number()
	}
	return ofL(row...)
}

// someRow is a schema of at most so many letters, and values by it.
func someRow(r *rand.Rand, most int) (string, []wire.Value) {
	schema := make([]byte, r.Intn(most+1))
	row := make([]wire.Value, len(schema))
	for i := range schema {
		schema[i] = letters[r.Intn(len(letters))]
		row[i] = some(r, schema[i])
	}
	return string(schema), row
}

// formByHand tells a form by the library's words.
func formByHand(schema string, row []wire.Value) []byte {
	var form []byte
	for i, v := range row {
		switch schema[i] {
		case 'n':
			form = binary.AppendUvarint(form, v.N)
		case 'i':
			form = binary.AppendVarint(form, int64(v.I))
		case 'f':
			yes := map[bool]byte{true: 1}
			form = append(form, yes[v.F])
		case 'b':
			form = append(binary.AppendUvarint(form, uint64(len(v.B))), v.B...)
		case 'l':
			form = binary.AppendUvarint(form, uint64(len(v.L)))
			for _, n := range v.L {
				form = binary.AppendUvarint(form, n)
			}
		}
	}
	return form
}

// reader takes values by the library's words: each of them is put again.
type reader struct {
	rest []byte
	ok   bool
}

func (r *reader) word() uint64 {
	n, used := binary.Uvarint(r.rest)
	if used <= 0 || !bytes.HasPrefix(r.rest, word(n)) {
		r.ok = false
		return 0
	}
	r.rest = r.rest[used:]
	return n
}

func (r *reader) value(letter byte) wire.Value {
	var v wire.Value
	switch letter {
	case 'n':
		v.N = r.word()
	case 'i':
		n := r.word()
		if v.I = int(n >> 1); n&1 == 1 {
			v.I = ^v.I
		}
	case 'f':
		n := r.word()
		v.F, r.ok = n == 1, r.ok && n < 2
	case 'b':
		n := r.word()
		if r.ok = r.ok && n <= api.MaxUpdate && n <= uint64(len(r.rest)); r.ok {
			v.B, r.rest = r.rest[:n], r.rest[n:]
		}
	case 'l':
		n := r.word()
		r.ok = r.ok && n <= mostRow
		for ; r.ok && n > 0; n-- {
			v.L = append(v.L, r.word())
		}
	}
	return v
}

// takeByHand tells what Take is to answer, of a schema that may be.
func takeByHand(schema string, b []byte) ([]wire.Value, int, api.Errno) {
	r := reader{rest: b, ok: true}
	var row []wire.Value
	for i := range len(schema) {
		row = append(row, r.value(schema[i]))
		if !r.ok {
			return nil, 0, api.ErrWire
		}
	}
	return row, len(b) - len(r.rest), api.OK
}

func alike(a, b []wire.Value) bool {
	return slices.EqualFunc(a, b, func(v, w wire.Value) bool {
		return v.N == w.N && v.I == w.I && v.F == w.F && bytes.Equal(v.B, w.B) && slices.Equal(v.L, w.L)
	})
}

// brief tells how something begins that may be very long.
func brief(long any) string {
	text := fmt.Sprintf("%v", long)
	if len(text) <= mostTold {
		return text
	}
	return text[:mostTold] + ".."
}

func checkPut(t *testing.T, schema string, row []wire.Value, want []byte, wantE api.Errno) {
	t.Helper()
	form, e := wire.Put(schema, row...)
	if !bytes.Equal(form, want) || e != wantE || e != api.OK && form != nil {
		t.Fatalf("put %s, %s: %s %v, not %s %v", brief(schema), brief(row), brief(form), e, brief(want), wantE)
	}
}

func checkTake(t *testing.T, schema string, b []byte, want []wire.Value, wantUsed int, wantE api.Errno) {
	t.Helper()
	row, used, e := wire.Take(schema, b)
	if !alike(row, want) || used != wantUsed || e != wantE || e != api.OK && row != nil {
		t.Fatalf("take %s of %s: %s %d %v, not %s %d %v", brief(schema), brief(b), brief(row), used, e, brief(want), wantUsed, wantE)
	}
}

// checkWhole holds Whole against what Take is to answer.
func checkWhole(t *testing.T, schema string, b []byte, want []wire.Value, wantUsed int, wantE api.Errno) {
	t.Helper()
	if wantE == api.OK && wantUsed < len(b) {
		want, wantE = nil, api.ErrWire
	}
	row, e := wire.Whole(schema, b)
	if !alike(row, want) || e != wantE || e != api.OK && row != nil {
		t.Fatalf("whole %s of %s: %s %v, not %s %v", brief(schema), brief(b), brief(row), e, brief(want), wantE)
	}
}

// checkNone fails if by that schema anything is taken of these bytes.
func checkNone(t *testing.T, schema string, b []byte, want api.Errno) {
	t.Helper()
	checkTake(t, schema, b, nil, 0, want)
	checkWhole(t, schema, b, nil, 0, want)
}

// forms are values that may be, and their forms.
var forms = []struct {
	schema string
	row    []wire.Value
	form   []byte
}{
	{"", nil, nil},
	{"nif", []wire.Value{ofN(300), ofI(-1), ofF(true)}, []byte{172, 2, 1, 1}},
	{"bl", []wire.Value{ofB(7, 8), ofL(1, 300)}, []byte{2, 7, 8, 2, 1, 172, 2}},
	{"n", []wire.Value{ofN(0)}, []byte{0}},
	{"n", []wire.Value{ofN(127)}, []byte{127}},
	{"n", []wire.Value{ofN(128)}, []byte{128, 1}},
	{"n", []wire.Value{ofN(math.MaxUint64)}, []byte{255, 255, 255, 255, 255, 255, 255, 255, 255, 1}},
	{"i", []wire.Value{ofI(0)}, []byte{0}},
	{"i", []wire.Value{ofI(1)}, []byte{2}},
	{"i", []wire.Value{ofI(-2)}, []byte{3}},
	{"i", []wire.Value{ofI(-64)}, []byte{127}},
	{"i", []wire.Value{ofI(64)}, []byte{128, 1}},
	{"i", []wire.Value{ofI(math.MaxInt)}, []byte{254, 255, 255, 255, 255, 255, 255, 255, 255, 1}},
	{"i", []wire.Value{ofI(math.MinInt)}, []byte{255, 255, 255, 255, 255, 255, 255, 255, 255, 1}},
	{"f", []wire.Value{ofF(false)}, []byte{0}},
	{"f", []wire.Value{ofF(true)}, []byte{1}},
	{"b", []wire.Value{ofB()}, []byte{0}},
	{"b", []wire.Value{{B: []byte{}}}, []byte{0}},
	{"b", []wire.Value{ofB(0)}, []byte{1, 0}},
	{"b", []wire.Value{ofB(255, 0, 128)}, []byte{3, 255, 0, 128}},
	{"b", []wire.Value{ofB(all(9, 127)...)}, join([]byte{127}, all(9, 127))},
	{"b", []wire.Value{ofB(all(9, 128)...)}, join([]byte{128, 1}, all(9, 128))},
	{"l", []wire.Value{ofL()}, []byte{0}},
	{"l", []wire.Value{{L: []uint64{}}}, []byte{0}},
	{"l", []wire.Value{ofL(0)}, []byte{1, 0}},
	{"l", []wire.Value{ofL(300, 0, math.MaxUint64)}, []byte{3, 172, 2, 0, 255, 255, 255, 255, 255, 255, 255, 255, 255, 1}},
	{"l", []wire.Value{ofL(make([]uint64, 128)...)}, join([]byte{128, 1}, all(0, 128))},
	{"nn", []wire.Value{ofN(1), ofN(2)}, []byte{1, 2}},
	{"in", []wire.Value{ofI(1), ofN(1)}, []byte{2, 1}},
	{"bb", []wire.Value{ofB(), ofB(1)}, []byte{0, 1, 1}},
	{"lbf", []wire.Value{ofL(1), ofB(), ofF(false)}, []byte{1, 1, 0, 0}},
	{"nnniiiib", []wire.Value{ofN(1), ofN(0), ofN(0), ofI(0), ofI(0), ofI(2), ofI(0), ofB('a')}, []byte{1, 0, 0, 0, 0, 4, 0, 1, 97}},
}

// P4.1, P4.2, P4.3; the rows of the chapter's examples that are put.
func TestForms(t *testing.T) {
	for _, x := range forms {
		checkPut(t, x.schema, x.row, x.form, api.OK)
		checkTake(t, x.schema, x.form, x.row, len(x.form), api.OK)
		checkWhole(t, x.schema, x.form, x.row, len(x.form), api.OK)
		more := join(x.form, []byte{0, 1, 255})
		checkTake(t, x.schema, more, x.row, len(x.form), api.OK)
		checkWhole(t, x.schema, more, x.row, len(x.form), api.OK)
	}
}

// P4.1, Put; P4.2, P4.3: values by a fixed seed, of all kinds.
func TestFormsByHand(t *testing.T) {
	r := rand.New(rand.NewSource(1))
	for range 3000 {
		schema, row := someRow(r, mostLetters)
		form := formByHand(schema, row)
		checkPut(t, schema, row, form, api.OK)
		checkTake(t, schema, form, row, len(form), api.OK)
		checkWhole(t, schema, form, row, len(form), api.OK)
	}
}

// P4.1, P4.2, P4.3: letters that there aren't, wherever they stand, and
// whatever the bytes are.
func TestLettersThatThereArent(t *testing.T) {
	var bad []string
	for c := range 256 {
		if strings.IndexByte(letters, byte(c)) < 0 {
			bad = append(bad, string([]byte{byte(c)}))
		}
	}
	bad = append(bad, "x", "N", "I", "F", "B", "L", " ", "n n", "é", "n\u0301", "\u0146", "\uff4e")
	for _, letter := range bad {
		for _, schema := range []string{letter, letter + "nnn", "nn" + letter + "n", "nnn" + letter} {
			for many := range 5 {
				checkPut(t, schema, make([]wire.Value, many), nil, api.ErrArg)
				checkNone(t, schema, all(0, many), api.ErrArg)
			}
			checkPut(t, schema, make([]wire.Value, len(schema)), nil, api.ErrArg)
			checkNone(t, schema, nil, api.ErrArg)
			checkNone(t, schema, []byte{128, 0}, api.ErrArg)
		}
	}
}

// P4.1, P4.2, P4.3: schemas of 64 letters and of more.
func TestManyLetters(t *testing.T) {
	for _, letter := range letters {
		for _, many := range []int{63, 64} {
			row := make([]wire.Value, many)
			for i := range row {
				row[i] = some(rand.New(rand.NewSource(int64(i))), byte(letter))
			}
			schema := strings.Repeat(string(letter), many)
			form := formByHand(schema, row)
			checkPut(t, schema, row, form, api.OK)
			checkTake(t, schema, form, row, len(form), api.OK)
			checkWhole(t, schema, form, row, len(form), api.OK)
		}
		for _, many := range []int{65, 66, 128, 256 + 1, 1<<16 + 1, 1 << 20} {
			schema := strings.Repeat(string(letter), many)
			checkPut(t, schema, make([]wire.Value, many), nil, api.ErrArg)
			checkPut(t, schema, make([]wire.Value, mostLetters), nil, api.ErrArg)
			checkPut(t, schema, nil, nil, api.ErrArg)
			checkNone(t, schema, all(0, many), api.ErrArg)
			checkNone(t, schema, nil, api.ErrArg)
		}
	}
	// As many letters as there may be, but some of several bytes.
	for _, schema := range []string{strings.Repeat("é", 64), strings.Repeat("n", 63) + "é", strings.Repeat("é", 32)} {
		checkPut(t, schema, make([]wire.Value, 64), nil, api.ErrArg)
		checkNone(t, schema, all(0, 64), api.ErrArg)
	}
}

// P4.1, Put: more values than letters, or fewer; the row of the chapter's
// examples of it.
func TestAsManyValuesAsLetters(t *testing.T) {
	checkPut(t, "n", nil, nil, api.ErrArg)
	checkPut(t, "n", []wire.Value{}, nil, api.ErrArg)
	checkPut(t, "", []wire.Value{{}}, nil, api.ErrArg)
	checkPut(t, "", []wire.Value{}, nil, api.OK)
	for _, schema := range []string{"n", "bb", "nifbl", strings.Repeat("l", mostLetters)} {
		for many := range mostLetters + 3 {
			if many == len(schema) {
				checkPut(t, schema, make([]wire.Value, many), all(0, many), api.OK)
				continue
			}
			checkPut(t, schema, make([]wire.Value, many), nil, api.ErrArg)
		}
	}
}

// P4.1, Put: a value with a field that its letter hasn't, beside its own or
// alone, at each place; the row of the chapter's examples of it.
func TestFieldsThatTheLetterHasnt(t *testing.T) {
	checkPut(t, "n", []wire.Value{ofI(1)}, nil, api.ErrArg)
	set := []func(v *wire.Value){
		func(v *wire.Value) { v.N = 1 },
		func(v *wire.Value) { v.I = -1 },
		func(v *wire.Value) { v.F = true },
		func(v *wire.Value) { v.B = []byte{0} },
		func(v *wire.Value) { v.L = []uint64{0} },
	}
	for own := range letters {
		for other := range letters {
			for _, besides := range []bool{false, true} {
				var v wire.Value
				set[other](&v)
				if besides {
					set[own](&v)
				}
				for place := range 4 {
					schema := []byte("fnbi")
					row := make([]wire.Value, len(schema))
					schema[place], row[place] = letters[own], v
					if own == other {
						checkPut(t, string(schema), row, formByHand(string(schema), row), api.OK)
						continue
					}
					checkPut(t, string(schema), row, nil, api.ErrArg)
				}
			}
		}
	}
	// Lists without anything in them are as good as none.
	empty := wire.Value{B: []byte{}, L: []uint64{}}
	spare := wire.Value{B: []byte{7}[:0], L: []uint64{7}[:0]}
	checkPut(t, "nifbl", []wire.Value{empty, empty, empty, empty, empty}, all(0, 5), api.OK)
	checkPut(t, "nifbl", []wire.Value{spare, spare, spare, spare, spare}, all(0, 5), api.OK)
}

// P4.1, Put; P4.2, P4.3: bytes of just MaxUpdate, rows of just 4096, and such
// as are longer; as many of the longest as there are letters.
func TestLong(t *testing.T) {
	for _, many := range []int{api.MaxUpdate - 1, api.MaxUpdate, api.MaxUpdate + 1, 2 * api.MaxUpdate} {
		row := []wire.Value{ofF(true), ofB(all(128, many)...), ofN(5)}
		form := formByHand("fbn", row)
		if many > api.MaxUpdate {
			checkPut(t, "fbn", row, nil, api.ErrLong)
			checkNone(t, "fbn", form, api.ErrWire)
			continue
		}
		checkPut(t, "fbn", row, form, api.OK)
		checkTake(t, "fbn", form, row, len(form), api.OK)
		checkWhole(t, "fbn", form, row, len(form), api.OK)
	}
	for _, many := range []int{mostRow - 1, mostRow, mostRow + 1, api.MaxUpdate} {
		for _, number := range []uint64{0, 300, math.MaxUint64} {
			row := []wire.Value{ofF(true), ofL(slices.Repeat([]uint64{number}, many)...), ofN(5)}
			form := formByHand("fln", row)
			if many > mostRow {
				checkPut(t, "fln", row, nil, api.ErrLong)
				checkNone(t, "fln", form, api.ErrWire)
				continue
			}
			checkPut(t, "fln", row, form, api.OK)
			checkTake(t, "fln", form, row, len(form), api.OK)
			checkWhole(t, "fln", form, row, len(form), api.OK)
		}
	}
	longest := ofB(all(3, api.MaxUpdate)...)
	schema, row := strings.Repeat("b", mostLetters), slices.Repeat([]wire.Value{longest}, mostLetters)
	form := formByHand(schema, row)
	checkPut(t, schema, row, form, api.OK)
	checkWhole(t, schema, form, row, len(form), api.OK)
}

// P4.1: ErrArg ahead of ErrLong, whichever stands first.
func TestErrArgAheadOfErrLong(t *testing.T) {
	long, longRow := ofB(make([]byte, api.MaxUpdate+1)...), ofL(make([]uint64, mostRow+1)...)
	for _, x := range []struct {
		schema string
		row    []wire.Value
		e      api.Errno
	}{
		{"b", []wire.Value{long}, api.ErrLong},
		{"l", []wire.Value{longRow}, api.ErrLong},
		{"bl", []wire.Value{long, longRow}, api.ErrLong},
		{"nb", []wire.Value{ofN(1), long}, api.ErrLong},
		{"ln", []wire.Value{longRow, ofN(1)}, api.ErrLong},
		{"bx", []wire.Value{long, {}}, api.ErrArg},
		{"xl", []wire.Value{{}, longRow}, api.ErrArg},
		{"bn", []wire.Value{long}, api.ErrArg},
		{"l", []wire.Value{longRow, ofN(1)}, api.ErrArg},
		{"bn", []wire.Value{long, ofI(1)}, api.ErrArg},
		{"lf", []wire.Value{longRow, {F: true, N: 1}}, api.ErrArg},
		{"nb", []wire.Value{ofI(1), long}, api.ErrArg},
		{"l", []wire.Value{long}, api.ErrArg},
		{"b", []wire.Value{longRow}, api.ErrArg},
		{"n", []wire.Value{long}, api.ErrArg},
		{"b", []wire.Value{{B: long.B, L: longRow.L}}, api.ErrArg},
		{"b", []wire.Value{{B: long.B, F: true}}, api.ErrArg},
		{strings.Repeat("b", mostLetters+1), slices.Repeat([]wire.Value{long}, mostLetters+1), api.ErrArg},
	} {
		checkPut(t, x.schema, x.row, nil, x.e)
	}
}

// P4.1, Same: field by field, of any rows; lists that are nil and empty ones
// are the same.
func TestSame(t *testing.T) {
	full := wire.Value{N: 1, I: -1, F: true, B: []byte{7, 8}, L: []uint64{1, 300}}
	others := []wire.Value{{}, full, full, full, full, full, full, full, full, full, full, full, full}
	others[2].N = 2
	others[3].I = 1
	others[4].F = false
	others[5].B = []byte{7}
	others[6].B = []byte{7, 9}
	others[7].B = []byte{7, 8, 0}
	others[8].B = nil
	others[9].L = []uint64{1}
	others[10].L = []uint64{1, 301}
	others[11].L = []uint64{1, 300, 0}
	others[12].L = nil
	for i, v := range others {
		for j, w := range others {
			for _, rows := range [][2][]wire.Value{{{v}, {w}}, {{full, v}, {full, w}}, {{v, full}, {w, full}}} {
				if got := wire.Same(rows[0], rows[1]); got != (i == j) {
					t.Errorf("%v: %v", rows, got)
				}
			}
		}
		copied := v
		copied.B, copied.L = slices.Clone(v.B), slices.Clone(v.L)
		if !wire.Same([]wire.Value{v, {}}, []wire.Value{copied, {}}) {
			t.Errorf("%v and a copy", v)
		}
	}
	if !wire.Same(nil, nil) || !wire.Same(nil, []wire.Value{}) || !wire.Same([]wire.Value{{B: []byte{}}}, []wire.Value{{L: []uint64{}}}) {
		t.Error("none")
	}
	for _, x := range [][2][]wire.Value{{nil, {{}}}, {{full}, {full, full}}, {{full}, {full, {}}}, {{{}}, {{}, {}}}, {{ofN(1), ofN(2)}, {ofN(2), ofN(1)}}} {
		if wire.Same(x[0], x[1]) || wire.Same(x[1], x[0]) {
			t.Errorf("%v", x)
		}
	}
}

// P4.2, P4.3: bytes that begin with no form; the rows of the chapter's
// examples of it.
func TestNoForm(t *testing.T) {
	tooGreat := []byte{255, 255, 255, 255, 255, 255, 255, 255, 255, 2}
	greatest := word(math.MaxUint64)
	for _, x := range []struct {
		schema string
		b      []byte
	}{
		{"f", []byte{2}},
		{"f", nil},
		{"f", []byte{}},
		{"b", []byte{2, 7}},
		// Flags.
		{"f", []byte{128, 0}},
		{"f", []byte{129, 0}},
		{"f", []byte{255}},
		{"nf", []byte{1, 3}},
		// Words.
		{"n", nil},
		{"n", []byte{128}},
		{"n", []byte{128, 0}},
		{"n", []byte{129, 128, 0}},
		{"n", tooGreat},
		{"n", all(255, 20)},
		{"i", nil},
		{"i", []byte{172}},
		{"i", []byte{129, 0}},
		{"i", tooGreat},
		{"nn", []byte{5}},
		{"nn", []byte{5, 128}},
		{"ni", []byte{5, 128, 0}},
		// Lengths of bytes, and such as they are not as many as.
		{"b", nil},
		{"b", []byte{1}},
		{"b", []byte{128}},
		{"b", []byte{128, 0}},
		{"b", []byte{130, 0, 7, 7}},
		{"b", join([]byte{128, 1}, all(7, 127))},
		{"b", join(word(api.MaxUpdate), all(7, api.MaxUpdate-1))},
		{"b", join(word(api.MaxUpdate+1), all(7, api.MaxUpdate+1))},
		{"b", join(word(1<<31), []byte{7})},
		{"b", join(word(1<<32), []byte{7})},
		{"b", join(word(1<<32+1), []byte{7})},
		{"b", join(word(1<<63-1), []byte{7})},
		{"b", join(word(1<<63), []byte{7})},
		{"b", join(word(1<<63+1), []byte{7})},
		{"b", join(greatest, []byte{7, 7, 7})},
		{"b", join(tooGreat, []byte{7, 7, 7})},
		{"nb", join([]byte{1}, greatest)},
		{"bn", []byte{1, 7}},
		{"bb", []byte{1, 7, 1}},
		// Rows that end too early, or in a word, and such as are no words.
		{"l", nil},
		{"l", []byte{1}},
		{"l", []byte{2, 1}},
		{"l", []byte{2, 1, 172}},
		{"l", []byte{1, 172}},
		{"l", []byte{1, 128, 0}},
		{"l", []byte{3, 1, 128, 0, 1}},
		{"l", join([]byte{1}, tooGreat)},
		{"l", []byte{129, 0, 5}},
		{"l", join(word(mostRow), all(7, mostRow-1))},
		{"l", join(word(mostRow+1), all(7, mostRow+1))},
		{"l", join(word(1<<32), all(7, mostRow))},
		{"l", join(word(1<<32+1), all(7, mostRow))},
		{"l", join(word(1<<63), all(7, mostRow))},
		{"l", join(greatest, all(7, mostRow))},
		{"l", join(tooGreat, all(7, mostRow))},
		{"ln", []byte{1, 7}},
		{"ll", []byte{1, 7, 1, 172}},
	} {
		checkNone(t, x.schema, x.b, api.ErrWire)
		// What is behind the row, in the room that it has, doesn't count.
		checkNone(t, x.schema, slices.Concat(x.b, all(0, api.MaxUpdate))[:len(x.b)], api.ErrWire)
	}
}

// P4.3; the row of the chapter's examples of it.
func TestNothingBehind(t *testing.T) {
	checkWhole(t, "n", []byte{5}, []wire.Value{ofN(5)}, 1, api.OK)
	for _, x := range []struct {
		schema string
		b      []byte
		used   int
	}{
		{"n", []byte{5, 6}, 1},
		{"", []byte{0}, 0},
		{"f", []byte{1, 0}, 1},
		{"b", []byte{0, 0}, 1},
		{"b", []byte{1, 7, 7}, 2},
		{"l", []byte{0, 0}, 1},
		{"l", []byte{1, 172, 2, 128}, 3},
		{"nn", []byte{5, 6, 7}, 2},
	} {
		if row, e := wire.Whole(x.schema, x.b); row != nil || e != api.ErrWire {
			t.Errorf("whole %q of %v: %v %v", x.schema, x.b, row, e)
		}
		if _, used, e := wire.Take(x.schema, x.b); used != x.used || e != api.OK {
			t.Errorf("take %q of %v: %d %v", x.schema, x.b, used, e)
		}
	}
}

// P4.2, P4.3, P4.4: all schemas of up to two letters, of all of up to two
// bytes: what is taken is put as what it was taken of.
func TestAllOfTwoBytes(t *testing.T) {
	schemas := []string{""}
	for _, first := range letters {
		schemas = append(schemas, string(first))
		for _, second := range letters {
			schemas = append(schemas, string(first)+string(second))
		}
	}
	rows := [][]byte{nil}
	for first := range 256 {
		rows = append(rows, []byte{byte(first)})
		for second := range 256 {
			rows = append(rows, []byte{byte(first), byte(second)})
		}
	}
	for _, schema := range schemas {
		for _, b := range rows {
			row, used, e := takeByHand(schema, b)
			checkTake(t, schema, b, row, used, e)
			checkWhole(t, schema, b, row, used, e)
			if e == api.OK {
				checkPut(t, schema, row, b[:used], api.OK)
			}
		}
	}
}

// P4.2, P4.3, P4.4: bytes by a fixed seed, and forms some bytes of which are
// others.
func TestTakeByHand(t *testing.T) {
	r := rand.New(rand.NewSource(2))
	taken, refused := 0, 0
	for range 20000 {
		schema, row := someRow(r, 6)
		b := make([]byte, r.Intn(20))
		for i := range b {
			b[i] = byte(r.Intn(256)) >> r.Intn(8)
		}
		if r.Intn(2) == 1 {
			b = append(formByHand(schema, row), b[:r.Intn(len(b)+1)]...)
		}
		for range r.Intn(3) {
			if len(b) > 0 {
				b[r.Intn(len(b))] = byte(r.Intn(256)) >> r.Intn(8)
			}
		}
		row, used, e := takeByHand(schema, b)
		checkTake(t, schema, b, row, used, e)
		checkWhole(t, schema, b, row, used, e)
		if e == api.OK {
			checkPut(t, schema, row, b[:used], api.OK)
			taken++
		} else {
			refused++
		}
	}
	if taken < 2000 || refused < 2000 {
		t.Errorf("%d taken, %d refused", taken, refused)
	}
}

// P4.4: what was put is taken as it was, whatever stands behind it.
func TestThereAndBack(t *testing.T) {
	r := rand.New(rand.NewSource(3))
	for range 2000 {
		schema, row := someRow(r, 12)
		form, e := wire.Put(schema, row...)
		if e != api.OK {
			t.Fatalf("%q, %v: %v", schema, row, e)
		}
		behind := make([]byte, r.Intn(30))
		r.Read(behind)
		got, used, e := wire.Take(schema, join(form, behind))
		if e != api.OK || used != len(form) || !wire.Same(got, row) || !alike(got, row) {
			t.Fatalf("%q, %v: %v %d %v", schema, row, got, used, e)
		}
		again, e := wire.Put(schema, got...)
		if e != api.OK || !bytes.Equal(again, form) {
			t.Fatalf("%q, %v: %v, not %v", schema, row, again, form)
		}
	}
}

// P4.5: by two schemas, one behind the other.
func TestRowByRow(t *testing.T) {
	r := rand.New(rand.NewSource(4))
	for range 2000 {
		first, firstRow := someRow(r, mostLetters/2)
		second, secondRow := someRow(r, mostLetters/2)
		firstForm, e := wire.Put(first, firstRow...)
		secondForm, secondE := wire.Put(second, secondRow...)
		if e != api.OK || secondE != api.OK {
			t.Fatalf("%q, %q: %v, %v", first, second, e, secondE)
		}
		both := join(firstForm, secondForm)
		checkPut(t, first+second, slices.Concat(firstRow, secondRow), both, api.OK)
		checkTake(t, first, both, firstRow, len(firstForm), api.OK)
		checkTake(t, second, both[len(firstForm):], secondRow, len(secondForm), api.OK)
		checkWhole(t, first+second, both, slices.Concat(firstRow, secondRow), len(both), api.OK)
	}
}

// P4.6: a form without its last bytes, however many.
func TestTorn(t *testing.T) {
	r := rand.New(rand.NewSource(5))
	for _, x := range forms {
		for end := range x.form {
			checkNone(t, x.schema, x.form[:end], api.ErrWire)
		}
	}
	for range 500 {
		schema, row := someRow(r, 6)
		form, _ := wire.Put(schema, row...)
		for end := range form {
			checkNone(t, schema, form[:end], api.ErrWire)
		}
	}
	long := formByHand("bln", []wire.Value{ofB(all(0, api.MaxUpdate)...), ofL(make([]uint64, mostRow)...), ofN(1 << 14)})
	for _, end := range []int{0, 1, 2, 3, 4, api.MaxUpdate, api.MaxUpdate + 3, api.MaxUpdate + 5, len(long) - 4, len(long) - 3, len(long) - 2, len(long) - 1} {
		checkNone(t, "bln", long[:end], api.ErrWire)
	}
}

// P0.4: what is handed in, and the room behind it, stay as they are.
func TestNothingIsChanged(t *testing.T) {
	given := []byte{2, 7, 8, 2, 1, 172, 2, 55, 66}
	data, numbers := []byte{7, 8, 9}, []uint64{1, 300, 9}
	values := []wire.Value{{B: data[:2]}, {L: numbers[:2]}, ofN(9)}
	kept := slices.Clone(given)
	for range 2 {
		form, e := wire.Put("bl", values[:2]...)
		if e != api.OK || !bytes.Equal(form, kept[:7]) {
			t.Fatalf("%v %v", form, e)
		}
		wire.Put("bx", values[:2]...)
		wire.Put("lb", values[:2]...)
		wire.Same(values[:2], values[1:])
		row, e := wire.Whole("bl", given[:7])
		if e != api.OK || !alike(row, []wire.Value{ofB(7, 8), ofL(1, 300)}) {
			t.Fatalf("%v %v", row, e)
		}
		wire.Take("b", given[:7])
		wire.Take("bl", given[:6])
		wire.Whole("bl", given[:8])
		overwrite(form, row)
		if !bytes.Equal(given, kept) || !bytes.Equal(data, []byte{7, 8, 9}) || !slices.Equal(numbers, []uint64{1, 300, 9}) ||
			!alike(values, []wire.Value{ofB(7, 8), ofL(1, 300), ofN(9)}) {
			t.Fatalf("%v, %v, %v, %v", given, data, numbers, values)
		}
	}
}

// overwrite fills answers, and the room behind them.
func overwrite(form []byte, row []wire.Value) {
	for _, v := range row {
		fill(v)
	}
	for i := range form[:cap(form)] {
		form[:cap(form)][i] = 77
	}
	clear(row[:cap(row)])
}

func fill(v wire.Value) {
	for i := range v.B[:cap(v.B)] {
		v.B[:cap(v.B)][i] = 77
	}
	for i := range v.L[:cap(v.L)] {
		v.L[:cap(v.L)][i] = 77
	}
}

// P0.4: answers are new memory, the room behind it too: no two of them share
// any, nor do two lists of one.
func TestAnswersShareNothing(t *testing.T) {
	given := []byte{2, 7, 8, 2, 1, 2, 2, 7, 8, 2, 1, 2}
	want := []wire.Value{ofB(7, 8), ofL(1, 2), ofB(7, 8), ofL(1, 2)}
	for place := range want {
		row, again := take(t, given), take(t, given)
		fill(row[place])
		row[place] = want[place]
		if !alike(row, want) || !alike(again, want) {
			t.Fatalf("%v, %v", row, again)
		}
	}
	form, e := wire.Put("b", ofB(7))
	again, againE := wire.Put("b", ofB(7))
	overwrite(form, nil)
	if e != api.OK || againE != api.OK || !bytes.Equal(again, []byte{1, 7}) {
		t.Fatalf("%v %v %v", again, e, againE)
	}
}

func take(t *testing.T, b []byte) []wire.Value {
	row, used, e := wire.Take("blbl", b)
	if used != len(b) || e != api.OK {
		t.Fatalf("%v: %d %v", b, used, e)
	}
	return row
}
