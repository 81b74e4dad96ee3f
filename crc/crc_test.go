package crc_test

import (
	"bytes"
	"encoding/binary"
	"hash/crc32"
	"math/rand"
	"slices"
	"testing"

	"windowpane/api"
	"windowpane/crc"
)

const sumBytes = 4

// datagrams are those of no bytes, of all noughts and of all ones, of each
// single byte, and others by a fixed seed, of all lengths that fly and of some
// beyond.
func datagrams() [][]byte {
	r := rand.New(rand.NewSource(1))
	l := [][]byte{nil, {}, []byte("123456789"), make([]byte, 5000), bytes.Repeat([]byte{255}, 5000)}
	for n := range 256 {
		l = append(l, []byte{byte(n)}, random(r, n), make([]byte, n), bytes.Repeat([]byte{255}, n))
	}
	return append(l, random(r, 5000), random(r, 1<<16+1))
}

func random(r *rand.Rand, n int) []byte {
	b := make([]byte, n)
	r.Read(b)
	return b
}

// sumByHand tells the sum by the chapter's words: a register as a list of its
// bits.
func sumByHand(b []byte) uint32 {
	var register [32]bool
	for i := range register {
		register[i] = true
	}
	for _, c := range b {
		for bit := range 8 {
			fell, handed := register[0], c>>bit%2 == 1
			copy(register[:], register[1:])
			register[31] = false
			if fell == handed {
				continue
			}
			for _, i := range []int{31, 30, 29, 27, 26, 24, 23, 21, 20, 19, 15, 9, 8, 5} {
				register[i] = !register[i]
			}
		}
	}
	var sum uint32
	for i, one := range register {
		if !one {
			sum |= 1 << i
		}
	}
	return sum
}

// withByLibrary tells a datagram with its sum as the library's sum has it.
func withByLibrary(b []byte) []byte {
	return binary.LittleEndian.AppendUint32(slices.Clone(b), crc32.ChecksumIEEE(b))
}

func wholeByLibrary(b []byte) bool {
	return len(b) >= sumBytes && bytes.Equal(withByLibrary(b[:len(b)-sumBytes]), b)
}

// turned tells these bytes, some bits of which are turned about.
func turned(b []byte, places ...int) []byte {
	spoilt := slices.Clone(b)
	for _, p := range places {
		spoilt[p/8] ^= 1 << (p % 8)
	}
	return spoilt
}

// checkNone fails if these bytes are told as a datagram with its sum.
func checkNone(t *testing.T, b []byte) {
	t.Helper()
	if crc.Whole(b) {
		t.Fatalf("%v is whole", b)
	}
	if got, ok := crc.Without(b); ok || got != nil {
		t.Fatalf("%v: %v %v", b, got, ok)
	}
}

// P3.1, Sum; all rows of the chapter's examples of it.
func TestSum(t *testing.T) {
	for _, x := range []struct {
		b    []byte
		want uint32
	}{
		{nil, 0},
		{[]byte{}, 0},
		{[]byte("123456789"), 0xcbf43926},
		{[]byte{0}, 0xd202ef8d},
		{[]byte{255}, 0xff000000},
		{[]byte{1}, 0xa505df1b},
		{[]byte{128}, 0x3fba6cad},
		{[]byte("The quick brown fox jumps over the lazy dog"), 0x414fa339},
	} {
		if got := crc.Sum(x.b); got != x.want {
			t.Errorf("%v: %x, not %x", x.b, got, x.want)
		}
	}
}

// P3.1, Sum: by the chapter's words, and as Ethernet's is.
func TestSumByHand(t *testing.T) {
	for _, b := range datagrams() {
		got := crc.Sum(b)
		if want := sumByHand(b); got != want {
			t.Errorf("%d bytes by hand: %x, not %x", len(b), got, want)
		}
		if want := crc32.ChecksumIEEE(b); got != want {
			t.Errorf("%d bytes by the library: %x, not %x", len(b), got, want)
		}
	}
}

// P3.1, With; all rows of the chapter's examples of it; the sum's lowest byte
// is the first one.
func TestWith(t *testing.T) {
	for _, x := range []struct{ b, want []byte }{
		{nil, []byte{0, 0, 0, 0}},
		{[]byte{}, []byte{0, 0, 0, 0}},
		{[]byte{0}, []byte{0, 0x8d, 0xef, 0x02, 0xd2}},
		{[]byte("123456789"), []byte("123456789\x26\x39\xf4\xcb")},
	} {
		if got := crc.With(x.b); !bytes.Equal(got, x.want) {
			t.Errorf("%v: %v, not %v", x.b, got, x.want)
		}
	}
	for _, b := range datagrams() {
		if got := crc.With(b); !bytes.Equal(got, withByLibrary(b)) {
			t.Errorf("%d bytes: %v", len(b), got)
		}
	}
}

// P3.2; all rows of the chapter's examples of it; bytes fewer than 4; sums that
// stand the wrong way about, ahead, or are another datagram's.
func TestWhole(t *testing.T) {
	for _, x := range []struct {
		b, want []byte
		ok      bool
	}{
		{nil, nil, false},
		{[]byte{}, nil, false},
		{[]byte{0}, nil, false},
		{[]byte{0, 0}, nil, false},
		{[]byte{0, 0, 0}, nil, false},
		{[]byte{0, 0, 0, 0}[:3], nil, false},
		{[]byte{0, 0, 0, 0}, nil, true},
		{[]byte{0, 0, 0, 0, 0}, nil, false},
		{[]byte{255, 255, 255, 255}, nil, false},
		{[]byte{0, 0x8d, 0xef, 0x02, 0xd2}, []byte{0}, true},
		{[]byte{0, 0x8d, 0xef, 0x02, 0xd2, 0}[:5], []byte{0}, true},
		{[]byte{0, 0xd2, 0x02, 0xef, 0x8d}, nil, false},
		{[]byte{0x8d, 0xef, 0x02, 0xd2, 0}, nil, false},
		{[]byte{1, 0x8d, 0xef, 0x02, 0xd2}, nil, false},
		{[]byte{0, 0x72, 0x10, 0xfd, 0x2d}, nil, false},
		{[]byte{0x8d, 0xef, 0x02, 0xd2}, nil, false},
		{[]byte("123456789\x26\x39\xf4\xcb"), []byte("123456789"), true},
		{[]byte("123456789\xcb\xf4\x39\x26"), nil, false},
		{[]byte("123456798\x26\x39\xf4\xcb"), nil, false},
	} {
		if got := crc.Whole(x.b); got != x.ok {
			t.Errorf("%v whole: %v", x.b, got)
		}
		if got, ok := crc.Without(x.b); !bytes.Equal(got, x.want) || ok != x.ok || !ok && got != nil {
			t.Errorf("%v: %v %v", x.b, got, ok)
		}
	}
}

// P3.2: bytes fewer than 4 are none, whatever stands in them.
func TestFewerBytesThanASum(t *testing.T) {
	for first := range 256 {
		checkNone(t, []byte{byte(first)})
		for second := range 256 {
			checkNone(t, []byte{byte(first), byte(second)})
			checkNone(t, []byte{byte(first), byte(second), 0, 0}[:3])
		}
	}
}

// P3.2: there and back; what is told as whole is what With tells.
func TestThereAndBack(t *testing.T) {
	for _, b := range datagrams() {
		with := crc.With(b)
		if !crc.Whole(with) {
			t.Errorf("%v is not whole", with)
		}
		if got, ok := crc.Without(with); !ok || !bytes.Equal(got, b) {
			t.Errorf("%v: %v %v", with, got, ok)
		}
	}
	r := rand.New(rand.NewSource(2))
	for n := range 2000 {
		b := random(r, n%40)
		if crc.Whole(b) != wholeByLibrary(b) {
			t.Errorf("%v whole: %v", b, crc.Whole(b))
		}
	}
}

// P3.2: of all sums that differ in one byte only the right one holds.
func TestOneSumOfEach(t *testing.T) {
	for _, b := range datagrams()[:40] {
		with := crc.With(b)
		for place := len(b); place < len(with); place++ {
			for n := range 256 {
				other := slices.Clone(with)
				other[place] = byte(n)
				if got := crc.Whole(other); got != bytes.Equal(other, with) {
					t.Fatalf("%v, of which %v is whole: %v", other, with, got)
				}
			}
		}
	}
}

// P3.3; all rows of the chapter's examples of it; rows of unlike lengths, either
// way about.
func TestDiffer(t *testing.T) {
	for _, x := range []struct {
		a, b []byte
		want int
	}{
		{nil, nil, 0},
		{nil, []byte{}, 0},
		{[]byte{1}, []byte{3}, 1},
		{[]byte{255, 0}, []byte{255}, 8},
		{[]byte{255, 255}, []byte{255}, 8},
		{[]byte{0}, nil, 8},
		{[]byte{255, 7, 0}, nil, 24},
		{[]byte{0}, []byte{255}, 8},
		{[]byte{0xaa, 0x0f}, []byte{0x55, 0x0f}, 8},
		{[]byte{1, 2, 4, 8}, []byte{1, 2, 4, 8}, 0},
		{[]byte{1, 2, 4, 8}, []byte{2, 4, 8, 16}, 8},
		{[]byte{128, 1}, []byte{0, 0, 0, 0}, 18},
		{[]byte{1, 2, 3}, []byte{2, 3}, 11},
		{[]byte{1, 0}[:1], []byte{1}, 0},
	} {
		if got := crc.Differ(x.a, x.b); got != x.want {
			t.Errorf("%v, %v: %d, not %d", x.a, x.b, got, x.want)
		}
		if got := crc.Differ(x.b, x.a); got != x.want {
			t.Errorf("%v, %v: %d, not %d", x.b, x.a, got, x.want)
		}
	}
}

// P3.3: counted bit by bit.
func TestDifferByHand(t *testing.T) {
	bit := func(b []byte, place int) int { return int(b[place/8]) >> (place % 8) & 1 }
	r := rand.New(rand.NewSource(3))
	for range 500 {
		a, b := random(r, r.Intn(40)), random(r, r.Intn(40))
		both := min(len(a), len(b))
		want := 8 * (max(len(a), len(b)) - both)
		for place := range 8 * both {
			want += bit(a, place) ^ bit(b, place)
		}
		if got := crc.Differ(a, b); got != want {
			t.Fatalf("%v, %v: %d, not %d", a, b, got, want)
		}
	}
	long := bytes.Repeat([]byte{255}, 1<<20)
	if got := crc.Differ(long, make([]byte, 1<<20+3)); got != 8<<20+24 {
		t.Errorf("a long one and noughts: %d", got)
	}
}

// P3.4: of a short datagram all of one, two and three bits, those of the sum
// itself too.
func TestFewBitsOfAShortOne(t *testing.T) {
	for _, b := range [][]byte{nil, {0}, {255, 0}, []byte("pane")} {
		with := crc.With(b)
		all := 8 * len(with)
		for i := range all {
			checkNone(t, turned(with, i))
			for j := range i {
				checkNone(t, turned(with, i, j))
				for k := range j {
					checkNone(t, turned(with, i, j, k))
				}
			}
		}
	}
}

// P3.4: of the longest datagram each bit, many two and three by a fixed seed.
func TestFewBitsOfALongOne(t *testing.T) {
	r := rand.New(rand.NewSource(4))
	for _, b := range [][]byte{make([]byte, api.MaxDatagram), random(r, api.MaxDatagram)} {
		with := crc.With(b)
		all := 8 * len(with)
		for i := range all {
			checkNone(t, turned(with, i))
		}
		for range 10000 {
			l := r.Perm(all)[:3]
			checkNone(t, turned(with, l[:2]...))
			checkNone(t, turned(with, l...))
		}
	}
}

// P3.4: of the longest datagram all of one, two and three bits. What a bit
// that is turned about does to the sum is the same whatever the others are: so
// none may do nothing, no two the same, and no two together what a third does.
func TestFewBitsByWhatEachDoes(t *testing.T) {
	b := random(rand.New(rand.NewSource(5)), api.MaxDatagram)
	sum := crc.Sum(b)
	var does []uint32
	for place := range 8 * len(b) {
		does = append(does, crc.Sum(turned(b, place))^sum)
	}
	for place := range 8 * sumBytes {
		does = append(does, 1<<place)
	}
	of := map[uint32]int{}
	for place, d := range does {
		if other, twice := of[d]; twice || d == 0 {
			t.Fatalf("bit %d does what %d does, or nothing: %x", place, other, d)
		}
		of[d] = place
	}
	for i, d := range does {
		for j := range i {
			if k, found := of[d^does[j]]; found {
				t.Fatalf("bits %d, %d and %d do nothing", i, j, k)
			}
		}
	}
}

// P3.4: two datagrams of one length, with their sums, differ in at least four bits.
func TestApart(t *testing.T) {
	least := 1 << 30
	for a := range 1 << 8 {
		for b := range a {
			least = min(least, crc.Differ(crc.With([]byte{7, byte(a)}), crc.With([]byte{7, byte(b)})))
		}
	}
	r := rand.New(rand.NewSource(6))
	for range 5000 {
		a := random(r, 1+r.Intn(api.MaxDatagram))
		b := turned(a, r.Perm(8 * len(a))[:1+r.Intn(3)]...)
		least = min(least, crc.Differ(crc.With(a), crc.With(b)))
	}
	if least < 4 {
		t.Errorf("two differ in %d", least)
	}
}

// P3.5: from each bit on, and of each length of the row: all bits of it, the
// two ends of it alone, and others by a fixed seed.
func TestARowOfBits(t *testing.T) {
	r := rand.New(rand.NewSource(7))
	for _, b := range [][]byte{nil, {0}, random(r, 20), random(r, api.MaxDatagram)} {
		with := crc.With(b)
		for from := range 8 * len(with) {
			for long := 1; long <= 32 && from+long <= 8*len(with); long++ {
				ends := []int{from}
				if long > 1 {
					ends = append(ends, from+long-1)
				}
				all, some := slices.Clone(ends), slices.Clone(ends)
				for place := from + 1; place < from+long-1; place++ {
					all = append(all, place)
					if r.Intn(2) == 1 {
						some = append(some, place)
					}
				}
				checkNone(t, turned(with, ends...))
				checkNone(t, turned(with, all...))
				checkNone(t, turned(with, some...))
			}
		}
	}
}

// P3.2, beside P3.5: bits within 33 can be turned about so that the bytes are
// a datagram with its sum again, another one.
func TestARowOfBitsTooLong(t *testing.T) {
	// The bit that falls out, and those that it turns about, each counted from it.
	places := []int{0, 6, 9, 10, 16, 20, 21, 22, 24, 25, 27, 28, 30, 31, 32}
	with := crc.With([]byte("pane"))
	spoilt := turned(with, places...)
	if got, ok := crc.Without(spoilt); !ok || bytes.Equal(got, []byte("pane")) {
		t.Errorf("%v: %v %v", spoilt, got, ok)
	}
}

// P3.6: the datagram of no bytes with its sum, and noughts behind it.
func TestNoughts(t *testing.T) {
	noughts := make([]byte, api.MaxDatagram)
	for n := range len(noughts) + 1 {
		if got := crc.Whole(noughts[:n]); got != (n == sumBytes) {
			t.Errorf("%d noughts whole: %v", n, got)
		}
		if got, ok := crc.Without(noughts[:n]); ok != (n == sumBytes) || len(got) > 0 {
			t.Errorf("%d noughts: %v %v", n, got, ok)
		}
	}
}

// P3.6: whether a datagram with its sum, less its last byte, or with a byte 0
// behind it, is one, its sum tells alone.
func TestBytesThatGoOrCome(t *testing.T) {
	for _, b := range datagrams() {
		with := crc.With(b)
		for _, other := range [][]byte{with[:len(with)-1], append(slices.Clone(with), 0), with[1:]} {
			if got := crc.Whole(other); got != wholeByLibrary(other) {
				t.Errorf("%v whole: %v", other, got)
			}
		}
	}
}

// P0.4: what is handed in, and the room behind it, stay as they are; answers
// are new memory; the same is answered again.
func TestNothingIsChangedOrKept(t *testing.T) {
	b := []byte{5, 0, 9, 1, 2, 3, 4, 5, 6}
	copy(b[2:], withByLibrary(b[:2])[2:])
	kept := slices.Clone(b)
	for range 2 {
		crc.Sum(b[:2])
		crc.Whole(b[:5])
		crc.Differ(b[:2], b[3:5])
		with, again := crc.With(b[:2]), crc.With(b[:2])
		without, ok := crc.Without(b[:6])
		none, noneOK := crc.Without(b[:5])
		if !bytes.Equal(with, b[:6]) || !bytes.Equal(without, b[:2]) || !ok || none != nil || noneOK {
			t.Fatalf("%v, %v %v, %v %v", with, without, ok, none, noneOK)
		}
		for _, room := range [][]byte{with[:cap(with)], without[:cap(without)]} {
			for i := range room {
				room[i] = 77
			}
		}
		if !bytes.Equal(again, kept[:6]) || !bytes.Equal(b, kept) {
			t.Fatalf("%v, %v", again, b)
		}
	}
}
