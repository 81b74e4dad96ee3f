package words_test

import (
	"bytes"
	"encoding/binary"
	"math"
	"math/big"
	"math/rand"
	"slices"
	"testing"

	"windowpane/words"
)

const longest = 10 // bytes of a word

// numbers are those beside each power of 2, and others by a fixed seed, of
// all magnitudes.
func numbers() []uint64 {
	r := rand.New(rand.NewSource(1))
	l := []uint64{0, 5, 127, 128, 300, math.MaxUint64 - 1}
	for bit := range 64 {
		power := uint64(1) << bit
		l = append(l, power-1, power, power+1, math.MaxUint64-power, math.MaxUint64<<bit)
	}
	for range 2000 {
		l = append(l, r.Uint64()>>r.Intn(64))
	}
	return l
}

// integers are those of all magnitudes, either way from 0.
func integers() []int {
	l := []int{0, 1, -1, 64, -64, math.MinInt, math.MinInt + 1, math.MaxInt - 1, math.MaxInt}
	for _, n := range numbers() {
		l = append(l, int(n), int(n>>1), -int(n>>1))
	}
	return l
}

// wordByHand tells a word by the chapter's words: digits by numbers of any size.
func wordByHand(n uint64) []byte {
	var word []byte
	rest, base, digit := new(big.Int).SetUint64(n), big.NewInt(128), new(big.Int)
	for {
		rest.QuoRem(rest, base, digit)
		if rest.Sign() == 0 {
			return append(word, byte(digit.Int64()))
		}
		word = append(word, byte(digit.Int64())+128)
	}
}

// getByHand tells what stands at a place by a reader that takes words with
// noughts that could be left out, too: these are put again and compared.
func getByHand(b []byte, at int) (uint64, int, bool) {
	if at < 0 || at >= len(b) {
		return 0, 0, false
	}
	n, used := binary.Uvarint(b[at:])
	if used <= 0 || !bytes.Equal(wordByHand(n), b[at:at+used]) {
		return 0, 0, false
	}
	return n, used, true
}

func checkGet(t *testing.T, b []byte, at int) {
	t.Helper()
	n, used, ok := words.Get(b, at)
	if wantN, wantUsed, want := getByHand(b, at); n != wantN || used != wantUsed || ok != want {
		t.Errorf("%v at %d: %d, %d %v, not %d, %d %v", b, at, n, used, ok, wantN, wantUsed, want)
	}
}

// P2.1; all rows of the chapter's examples of it.
func TestPut(t *testing.T) {
	for _, x := range []struct {
		n    uint64
		want []byte
	}{
		{0, []byte{0}},
		{1, []byte{1}},
		{127, []byte{127}},
		{128, []byte{128, 1}},
		{129, []byte{129, 1}},
		{256, []byte{128, 2}},
		{300, []byte{172, 2}},
		{1<<14 - 1, []byte{255, 127}},
		{1 << 14, []byte{128, 128, 1}},
		{1<<63 - 1, []byte{255, 255, 255, 255, 255, 255, 255, 255, 127}},
		{1 << 63, []byte{128, 128, 128, 128, 128, 128, 128, 128, 128, 1}},
		{math.MaxUint64, []byte{255, 255, 255, 255, 255, 255, 255, 255, 255, 1}},
	} {
		if got := words.Put(x.n); !bytes.Equal(got, x.want) {
			t.Errorf("%d: %v", x.n, got)
		}
		if got := words.Size(x.n); got != len(x.want) {
			t.Errorf("the size of %d: %d", x.n, got)
		}
	}
	for _, n := range numbers() {
		want := wordByHand(n)
		if got := words.Put(n); !bytes.Equal(got, want) {
			t.Errorf("%d: %v", n, got)
		}
		if got := words.Size(n); got != len(want) {
			t.Errorf("the size of %d: %d", n, got)
		}
	}
}

// P2.2; all rows of the chapter's examples of it; digits that are too many,
// numbers that are too great, bytes that end within a word.
func TestGet(t *testing.T) {
	nine := bytes.Repeat([]byte{255}, 9)
	noughts := bytes.Repeat([]byte{128}, 9)
	for _, x := range []struct {
		b    []byte
		at   int
		n    uint64
		used int
		ok   bool
	}{
		{[]byte{9, 172, 2, 7}, 0, 9, 1, true},
		{[]byte{9, 172, 2, 7}, 1, 300, 2, true},
		{[]byte{9, 172, 2, 7}, 2, 2, 1, true},
		{[]byte{9, 172, 2, 7}, 3, 7, 1, true},
		{[]byte{128, 0}, 0, 0, 0, false},
		{[]byte{128, 0}, 1, 0, 1, true},
		{[]byte{172}, 0, 0, 0, false},
		{[]byte{0}, 0, 0, 1, true},
		{[]byte{0, 0}, 0, 0, 1, true},
		{[]byte{128, 1}, 0, 128, 2, true},
		{[]byte{255, 0}, 0, 0, 0, false},
		{[]byte{255, 128, 0}, 0, 0, 0, false},
		{[]byte{172, 130}, 0, 0, 0, false},
		{slices.Concat(nine, []byte{1}), 0, math.MaxUint64, longest, true},
		{slices.Concat(nine, []byte{1, 99}), 0, math.MaxUint64, longest, true},
		{slices.Concat([]byte{200}, nine, []byte{1}), 1, math.MaxUint64, longest, true},
		{slices.Concat([]byte{200}, nine, []byte{1}), 0, 0, 0, false},
		{slices.Concat(noughts, []byte{1}), 0, 1 << 63, longest, true},
		{slices.Concat(noughts, []byte{0}), 0, 0, 0, false},
		{slices.Concat(noughts, []byte{2}), 0, 0, 0, false},
		{slices.Concat(noughts, []byte{3}), 0, 0, 0, false},
		{slices.Concat(noughts, []byte{127}), 0, 0, 0, false},
		{slices.Concat(noughts, []byte{128, 1}), 0, 0, 0, false},
		{slices.Concat(noughts, []byte{129, 0}), 0, 0, 0, false},
		{slices.Concat(noughts, []byte{129, 1}), 0, 0, 0, false},
		{slices.Concat(nine, []byte{255, 1}), 0, 0, 0, false},
		{slices.Concat(noughts, noughts, []byte{1}), 0, 0, 0, false},
		{noughts, 0, 0, 0, false},
		{nine, 0, 0, 0, false},
	} {
		if n, used, ok := words.Get(x.b, x.at); n != x.n || used != x.used || ok != x.ok {
			t.Errorf("%v at %d: %d, %d %v", x.b, x.at, n, used, ok)
		}
	}
}

// P2.2: places that are not in the bytes; of those behind the end none counts,
// even if there is room.
func TestGetOutside(t *testing.T) {
	b := []byte{1, 172, 2, 3}[:2]
	for _, at := range []int{math.MinInt, -1 << 32, -1, 1, 2, 3, 1 << 32, math.MaxInt - 9, math.MaxInt} {
		if n, used, ok := words.Get(b, at); n != 0 || used != 0 || ok {
			t.Errorf("at %d: %d, %d %v", at, n, used, ok)
		}
	}
	for _, at := range []int{math.MinInt, -1, 0, 1, math.MaxInt} {
		for _, none := range [][]byte{nil, {}} {
			if n, used, ok := words.Get(none, at); n != 0 || used != 0 || ok {
				t.Errorf("none at %d: %d, %d %v", at, n, used, ok)
			}
		}
	}
}

// P2.2: all of up to two bytes, and others by a fixed seed, with many that
// say that more follow.
func TestGetByHand(t *testing.T) {
	for first := range 256 {
		checkGet(t, []byte{byte(first)}, 0)
		for second := range 256 {
			checkGet(t, []byte{byte(first), byte(second)}, 0)
			checkGet(t, append(bytes.Repeat([]byte{255}, 8), byte(first), byte(second)), 0)
		}
	}
	r := rand.New(rand.NewSource(2))
	for range 20000 {
		b := make([]byte, r.Intn(16))
		for i := range b {
			if b[i] = byte(r.Intn(256)); r.Intn(4) > 0 {
				b[i] |= 128
			}
		}
		checkGet(t, b, r.Intn(18)-1)
	}
}

// P2.3; all rows of the chapter's examples of it.
func TestFold(t *testing.T) {
	for _, x := range []struct {
		i int
		n uint64
	}{
		{0, 0},
		{-1, 1},
		{1, 2},
		{-2, 3},
		{2, 4},
		{-64, 127},
		{64, 128},
		{math.MaxInt, math.MaxUint64 - 1},
		{math.MinInt, math.MaxUint64},
		{math.MinInt + 1, math.MaxUint64 - 2},
	} {
		if got := words.Fold(x.i); got != x.n {
			t.Errorf("%d folded: %d", x.i, got)
		}
		if got := words.Unfold(x.n); got != x.i {
			t.Errorf("%d unfolded: %d", x.n, got)
		}
	}
	for n := range uint64(1000) {
		want := int(n+1) / 2 // 0, 1, 1, 2, 2, .., every other one of which is below 0
		if n%2 == 1 {
			want = -want
		}
		if got := words.Unfold(n); got != want {
			t.Errorf("%d unfolded: %d", n, got)
		}
	}
}

// P2.3: each integer is folded as just one number, each number is of one integer.
func TestFoldedAndBack(t *testing.T) {
	for _, i := range integers() {
		if got := words.Unfold(words.Fold(i)); got != i {
			t.Errorf("%d, there and back: %d", i, got)
		}
	}
	for _, n := range numbers() {
		if got := words.Fold(words.Unfold(n)); got != n {
			t.Errorf("%d, there and back: %d", n, got)
		}
	}
}

// P2.4; all rows of the chapter's examples of it; what are no words.
func TestRows(t *testing.T) {
	for _, x := range []struct {
		b  []byte
		l  []uint64
		ok bool
	}{
		{nil, nil, true},
		{[]byte{}, nil, true},
		{[]byte{1, 172, 2}, []uint64{1, 300}, true},
		{[]byte{0, 0, 0}, []uint64{0, 0, 0}, true},
		{[]byte{128, 1, 127, 0}, []uint64{128, 127, 0}, true},
		{[]byte{172}, nil, false},
		{[]byte{1, 172}, nil, false},
		{[]byte{1, 172, 2, 128}, nil, false},
		{[]byte{1, 128, 0}, nil, false},
		{[]byte{1, 128, 0, 1}, nil, false},
		{[]byte{5, 255, 255, 255, 255, 255, 255, 255, 255, 255, 2, 5}, nil, false},
		{[]byte{5, 255, 255, 255, 255, 255, 255, 255, 255, 255, 1, 5}, []uint64{5, math.MaxUint64, 5}, true},
	} {
		if got, ok := words.Rows(x.b); !slices.Equal(got, x.l) || ok != x.ok || !ok && got != nil {
			t.Errorf("%v: %v %v", x.b, got, ok)
		}
		if !x.ok {
			continue
		}
		if got := words.Row(x.l); !bytes.Equal(got, x.b) {
			t.Errorf("the row of %v: %v", x.l, got)
		}
	}
}

// P2.4: a row is the words of all, one behind the other, and is told as they;
// without its last byte it is one only if that was a word.
func TestRowAndBack(t *testing.T) {
	all := numbers()
	r := rand.New(rand.NewSource(3))
	for range 500 {
		l := make([]uint64, r.Intn(12))
		var want []byte
		for i := range l {
			l[i] = all[r.Intn(len(all))]
			want = append(want, wordByHand(l[i])...)
		}
		row := words.Row(l)
		if !bytes.Equal(row, want) {
			t.Fatalf("the row of %v: %v", l, row)
		}
		if got, ok := words.Rows(row); !ok || !slices.Equal(got, l) {
			t.Fatalf("%v, there and back: %v %v", l, got, ok)
		}
		if len(l) == 0 {
			continue
		}
		whole := l[len(l)-1] < 128
		if got, ok := words.Rows(row[:len(row)-1]); ok != whole || ok && !slices.Equal(got, l[:len(l)-1]) {
			t.Fatalf("%v, less its last byte: %v %v", l, got, ok)
		}
	}
}

// P2.4: what these bytes are told as is put as just them.
func TestRowsOfAnyBytes(t *testing.T) {
	r := rand.New(rand.NewSource(4))
	for range 20000 {
		b := make([]byte, r.Intn(8))
		for i := range b {
			b[i] = byte(r.Intn(256)) >> r.Intn(8)
		}
		var want []uint64
		at, ok := 0, true
		for at < len(b) && ok {
			var n uint64
			var used int
			n, used, ok = getByHand(b, at)
			want, at = append(want, n), at+used
		}
		if !ok {
			want = nil
		}
		if got, gotOK := words.Rows(b); gotOK != ok || !slices.Equal(got, want) {
			t.Fatalf("%v: %v %v", b, got, gotOK)
		} else if ok && !bytes.Equal(words.Row(got), b) {
			t.Fatalf("%v is told as %v, put as %v", b, got, words.Row(got))
		}
	}
}

// P2.5: there and back, at whatever place, whatever stands around.
func TestOneWordEach(t *testing.T) {
	for i, n := range numbers() {
		word := words.Put(n)
		ahead := bytes.Repeat([]byte{byte(i)}, i%5)
		for _, behind := range [][]byte{nil, {0}, {1}, {128}, {255, 255}} {
			b := slices.Concat(ahead, word, behind)
			got, used, ok := words.Get(b, len(ahead))
			if got != n || used != len(word) || used != words.Size(n) || !ok {
				t.Fatalf("%d in %v at %d: %d, %d %v", n, b, len(ahead), got, used, ok)
			}
			if !bytes.Equal(words.Put(got), b[len(ahead):len(ahead)+used]) {
				t.Fatalf("%d is told of %v at %d, put as %v", got, b, len(ahead), words.Put(got))
			}
		}
	}
}

// P2.6: of two different numbers' words none begins the other one; no piece
// of a word that lacks its end is one.
func TestNoWordBeginsAnother(t *testing.T) {
	all := numbers()
	for _, a := range all {
		word := words.Put(a)
		for cut := range word {
			if n, used, ok := words.Get(word[:cut], 0); ok {
				t.Fatalf("%v, the beginning of the word of %d: %d, %d", word[:cut], a, n, used)
			}
		}
	}
	for _, a := range all[:330] {
		for _, b := range all[:330] {
			if a != b && bytes.HasPrefix(words.Put(b), words.Put(a)) {
				t.Fatalf("the word of %d begins that of %d", a, b)
			}
		}
	}
}

// P2.7.
func TestSmallOnesAreShort(t *testing.T) {
	all := numbers()
	slices.Sort(all)
	for i := 1; i < len(all); i++ {
		if words.Size(all[i]) < words.Size(all[i-1]) || len(words.Put(all[i])) < len(words.Put(all[i-1])) {
			t.Errorf("the word of %d is shorter than that of %d", all[i], all[i-1])
		}
	}
	away := func(i int) uint64 {
		if i < 0 {
			return -uint64(i)
		}
		return uint64(i)
	}
	some := integers()[:600]
	for _, near := range some {
		for _, far := range some {
			if away(far) > away(near) && away(far)-away(near) > 1 && words.Fold(near) > words.Fold(far) {
				t.Errorf("%d folded is more than %d folded", near, far)
			}
		}
	}
}

// P0.4: what is handed in, and the room behind it, stay as they are; answers
// are new memory; the same is answered again.
func TestNothingIsChangedOrKept(t *testing.T) {
	b := []byte{1, 172, 2, 172, 2, 77}
	l := []uint64{1, 300, 300, 77}
	bytesKept, listKept := slices.Clone(b), slices.Clone(l)
	for range 2 {
		words.Get(b[:4], 3)
		words.Rows(b[:4])
		told, ok := words.Rows(b[:3])
		if !ok || !slices.Equal(told, l[:2]) {
			t.Fatalf("%v %v", told, ok)
		}
		row, again, word := words.Row(l[:2]), words.Row(l[:2]), words.Put(300)
		if !bytes.Equal(row, b[:3]) || !bytes.Equal(again, row) || !bytes.Equal(word, []byte{172, 2}) {
			t.Fatalf("%v, %v, %v", row, again, word)
		}
		for _, room := range [][]byte{row[:cap(row)], word[:cap(word)]} {
			for i := range room {
				room[i] = 9
			}
		}
		clear(told[:cap(told)])
		if !bytes.Equal(again, b[:3]) {
			t.Fatalf("%v", again)
		}
	}
	if !bytes.Equal(b, bytesKept) || !slices.Equal(l, listKept) {
		t.Fatalf("%v, %v", b, l)
	}
}
